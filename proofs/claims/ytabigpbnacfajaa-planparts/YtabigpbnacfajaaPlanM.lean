/-
  Layer 7: where each name stands in the row of the parts. No function of the program is named here.
-/
import Derived.Test.YtabigpbnacfajaaPlanN
namespace Go.Proofs.Ytabigpbnacfajaa
open Go.RowKit
set_option linter.unusedVariables false

/-- The part of a sector, as a plan has it. -/
def pN (n t c a s : Nat) (at_ : Int) : Nm := partN (5 + (n : Int)) (5 + (n : Int) + (t : Int)) (5 + (n : Int) + (t : Int) + (c : Int)) (5 + (n : Int) + (t : Int) + (c : Int) + (a : Int)) (5 + (n : Int) + (t : Int) + (c : Int) + (a : Int) + 1) (5 + (n : Int) + (t : Int) + (c : Int) + (a : Int) + 1 + ((n : Int) + (t : Int) + 9)) (5 + (n : Int) + (t : Int) + (c : Int) + (a : Int) + 1 + ((n : Int) + (t : Int) + 9) + (s : Int)) at_
theorem partsL_length (n t c a s : Nat) : (partsL n t c a s).length = 5 + n + t + c + a + 1 + (n + 9 + t) + s := by simp [partsL, heads]; omega
theorem pN_super_ {n t c a s : Nat} {at_ : Int} (h1 : 0 ≤ at_) (h2 : at_ < 2) : pN n t c a s at_ = .super_ := by
  rw [pN, partN, if_neg (by omega), if_neg (by omega), if_pos (by omega)]
theorem pN_state_ {n t c a s : Nat} {at_ : Int} (h1 : 2 ≤ at_) (h2 : at_ < 3) : pN n t c a s at_ = .state_ := by
  rw [pN, partN, if_neg (by omega), if_neg (by omega), if_neg (by omega), if_pos (by omega)]
theorem pN_map_ {n t c a s : Nat} {at_ : Int} (h1 : 3 ≤ at_) (h2 : at_ < 4) : pN n t c a s at_ = .map_ := by
  rw [pN, partN, if_neg (by omega), if_neg (by omega), if_neg (by omega), if_neg (by omega), if_pos (by omega)]
theorem pN_classes_ {n t c a s : Nat} {at_ : Int} (h1 : 4 ≤ at_) (h2 : at_ < 5) : pN n t c a s at_ = .classes_ := by
  rw [pN, partN, if_neg (by omega), if_neg (by omega), if_neg (by omega), if_neg (by omega), if_neg (by omega), if_pos (by omega)]
theorem pN_index_ {n t c a s : Nat} {at_ : Int} (h1 : 5 ≤ at_) (h2 : at_ < 5 + (n : Int)) : pN n t c a s at_ = .index_ := by
  rw [pN, partN, if_neg (by omega), if_neg (by omega), if_neg (by omega), if_neg (by omega), if_neg (by omega), if_neg (by omega), if_pos (by omega)]
theorem pN_text_ {n t c a s : Nat} {at_ : Int} (h1 : 5 + (n : Int) ≤ at_) (h2 : at_ < 5 + (n : Int) + (t : Int)) : pN n t c a s at_ = .text_ := by
  rw [pN, partN, if_neg (by omega), if_neg (by omega), if_neg (by omega), if_neg (by omega), if_neg (by omega), if_neg (by omega), if_neg (by omega), if_pos (by omega)]
theorem pN_clip_ {n t c a s : Nat} {at_ : Int} (h1 : 5 + (n : Int) + (t : Int) ≤ at_) (h2 : at_ < 5 + (n : Int) + (t : Int) + (c : Int)) : pN n t c a s at_ = .clip_ := by
  rw [pN, partN, if_neg (by omega), if_neg (by omega), if_neg (by omega), if_neg (by omega), if_neg (by omega), if_neg (by omega), if_neg (by omega), if_neg (by omega), if_pos (by omega)]
theorem pN_audit_ {n t c a s : Nat} {at_ : Int} (h1 : 5 + (n : Int) + (t : Int) + (c : Int) ≤ at_) (h2 : at_ < 5 + (n : Int) + (t : Int) + (c : Int) + (a : Int)) : pN n t c a s at_ = .audit_ := by
  rw [pN, partN, if_neg (by omega), if_neg (by omega), if_neg (by omega), if_neg (by omega), if_neg (by omega), if_neg (by omega), if_neg (by omega), if_neg (by omega), if_neg (by omega), if_pos (by omega)]
theorem pN_head_ {n t c a s : Nat} {at_ : Int} (h1 : 5 + (n : Int) + (t : Int) + (c : Int) + (a : Int) ≤ at_) (h2 : at_ < 5 + (n : Int) + (t : Int) + (c : Int) + (a : Int) + 1) : pN n t c a s at_ = .head_ := by
  rw [pN, partN, if_neg (by omega), if_neg (by omega), if_neg (by omega), if_neg (by omega), if_neg (by omega), if_neg (by omega), if_neg (by omega), if_neg (by omega), if_neg (by omega), if_neg (by omega), if_pos (by omega)]
theorem pN_body_ {n t c a s : Nat} {at_ : Int} (h1 : 5 + (n : Int) + (t : Int) + (c : Int) + (a : Int) + 1 ≤ at_) (h2 : at_ < 5 + (n : Int) + (t : Int) + (c : Int) + (a : Int) + 1 + ((n : Int) + (t : Int) + 9)) : pN n t c a s at_ = .body_ := by
  rw [pN, partN, if_neg (by omega), if_neg (by omega), if_neg (by omega), if_neg (by omega), if_neg (by omega), if_neg (by omega), if_neg (by omega), if_neg (by omega), if_neg (by omega), if_neg (by omega), if_neg (by omega), if_pos (by omega)]
theorem pN_slot_ {n t c a s : Nat} {at_ : Int} (h1 : 5 + (n : Int) + (t : Int) + (c : Int) + (a : Int) + 1 + ((n : Int) + (t : Int) + 9) ≤ at_) (h2 : at_ < 5 + (n : Int) + (t : Int) + (c : Int) + (a : Int) + 1 + ((n : Int) + (t : Int) + 9) + (s : Int)) : pN n t c a s at_ = .slot_ := by
  rw [pN, partN, if_neg (by omega), if_neg (by omega), if_neg (by omega), if_neg (by omega), if_neg (by omega), if_neg (by omega), if_neg (by omega), if_neg (by omega), if_neg (by omega), if_neg (by omega), if_neg (by omega), if_neg (by omega)]
theorem pN_low {n t c a s : Nat} {at_ : Int} (h : at_ < 0) : pN n t c a s at_ = .no := by rw [pN, partN, if_pos h]
theorem pN_high {n t c a s : Nat} {at_ : Int} (h : 5 + (n : Int) + (t : Int) + (c : Int) + (a : Int) + 1 + ((n : Int) + (t : Int) + 9) + (s : Int) ≤ at_) : pN n t c a s at_ = .no := by rw [pN, partN, if_neg (by omega), if_pos h]
theorem rep_right {L : List Nm} {k j : Nat} {x : Nm} (h1 : L.length ≤ j) (h2 : j < L.length + k) : (L ++ List.replicate k x)[j]? = some x := by
  rw [List.getElem?_append_right h1, List.getElem?_replicate_of_lt (by omega)]
theorem partsL_get (n t c a s : Nat) {j : Nat} (hj : j < (partsL n t c a s).length) : (partsL n t c a s)[j]? = some (pN n t c a s j) := by
  rw [partsL_length] at hj
  rw [partsL]
  have l1 : (heads ++ List.replicate n .index_ : List Nm).length = 5 + n := by simp [heads]; omega
  have l2 : (heads ++ List.replicate n .index_ ++ List.replicate t .text_ : List Nm).length = 5 + n + t := by simp [heads]; omega
  have l3 : (heads ++ List.replicate n .index_ ++ List.replicate t .text_ ++ List.replicate c .clip_ : List Nm).length = 5 + n + t + c := by simp [heads]; omega
  have l4 : (heads ++ List.replicate n .index_ ++ List.replicate t .text_ ++ List.replicate c .clip_ ++ List.replicate a .audit_ : List Nm).length = 5 + n + t + c + a := by simp [heads]; omega
  have l5 : (heads ++ List.replicate n .index_ ++ List.replicate t .text_ ++ List.replicate c .clip_ ++ List.replicate a .audit_ ++ [.head_] : List Nm).length = 5 + n + t + c + a + 1 := by simp [heads]; omega
  have l6 : (heads ++ List.replicate n .index_ ++ List.replicate t .text_ ++ List.replicate c .clip_ ++ List.replicate a .audit_ ++ [.head_] ++ List.replicate (n + 9 + t) .body_ : List Nm).length = 5 + n + t + c + a + 1 + (n + 9 + t) := by simp [heads]; omega
  by_cases k7 : 5 + n + t + c + a + 1 + (n + 9 + t) ≤ j
  · rw [rep_right (by rw [l6]; omega) (by rw [l6]; omega), pN_slot_ (by omega) (by omega)]
  rw [List.getElem?_append_left (by rw [l6]; omega)]
  by_cases k6 : 5 + n + t + c + a + 1 ≤ j
  · rw [rep_right (by rw [l5]; omega) (by rw [l5]; omega), pN_body_ (by omega) (by omega)]
  rw [List.getElem?_append_left (by rw [l5]; omega)]
  by_cases k5 : 5 + n + t + c + a ≤ j
  · rw [List.getElem?_append_right (by rw [l4]; omega), l4, show j - (5 + n + t + c + a) = 0 by omega, pN_head_ (by omega) (by omega)]; rfl
  rw [List.getElem?_append_left (by rw [l4]; omega)]
  by_cases k4 : 5 + n + t + c ≤ j
  · rw [rep_right (by rw [l3]; omega) (by rw [l3]; omega), pN_audit_ (by omega) (by omega)]
  rw [List.getElem?_append_left (by rw [l3]; omega)]
  by_cases k3 : 5 + n + t ≤ j
  · rw [rep_right (by rw [l2]; omega) (by rw [l2]; omega), pN_clip_ (by omega) (by omega)]
  rw [List.getElem?_append_left (by rw [l2]; omega)]
  by_cases k2 : 5 + n ≤ j
  · rw [rep_right (by rw [l1]; omega) (by rw [l1]; omega), pN_text_ (by omega) (by omega)]
  rw [List.getElem?_append_left (by rw [l1]; omega)]
  by_cases k1 : 5 ≤ j
  · rw [rep_right (by simp [heads]; omega) (by simp [heads]; omega), pN_index_ (by omega) (by omega)]
  rw [List.getElem?_append_left (by simp [heads]; omega)]
  rcases (by omega : j = 0 ∨ j = 1 ∨ j = 2 ∨ j = 3 ∨ j = 4) with rfl | rfl | rfl | rfl | rfl
  · rw [pN_super_ (by omega) (by omega)]; rfl
  · rw [pN_super_ (by omega) (by omega)]; rfl
  · rw [pN_state_ (by omega) (by omega)]; rfl
  · rw [pN_map_ (by omega) (by omega)]; rfl
  · rw [pN_classes_ (by omega) (by omega)]; rfl
/-- No earlier sector has the name of a later part. -/
theorem pN_ne {n t c a s : Nat} {x : Nm} {k : Nat} (hk : k ≤ (partsL n t c a s).length) (hx : ∀ j : Nat, j < k → pN n t c a s j ≠ x) : ∀ j m, j < k → (partsL n t c a s)[j]? = some m → m ≠ x := by
  intro j m hj hm
  rw [partsL_get n t c a s (by omega)] at hm
  injection hm with hm
  rw [← hm]
  exact hx j hj
theorem before_index_ (n t c a s : Nat) : ∀ j : Nat, j < 5 → pN n t c a s j ≠ .index_ := by
  intro j hj
  by_cases b_super_ : (j : Int) < 2
  · rw [pN_super_ (by omega) b_super_]; decide
  by_cases b_state_ : (j : Int) < 3
  · rw [pN_state_ (by omega) b_state_]; decide
  by_cases b_map_ : (j : Int) < 4
  · rw [pN_map_ (by omega) b_map_]; decide
  by_cases b_classes_ : (j : Int) < 5
  · rw [pN_classes_ (by omega) b_classes_]; decide
  omega
theorem before_text_ (n t c a s : Nat) : ∀ j : Nat, j < 5 + n → pN n t c a s j ≠ .text_ := by
  intro j hj
  by_cases b_super_ : (j : Int) < 2
  · rw [pN_super_ (by omega) b_super_]; decide
  by_cases b_state_ : (j : Int) < 3
  · rw [pN_state_ (by omega) b_state_]; decide
  by_cases b_map_ : (j : Int) < 4
  · rw [pN_map_ (by omega) b_map_]; decide
  by_cases b_classes_ : (j : Int) < 5
  · rw [pN_classes_ (by omega) b_classes_]; decide
  by_cases b_index_ : (j : Int) < 5 + (n : Int)
  · rw [pN_index_ (by omega) b_index_]; decide
  omega
theorem before_clip_ (n t c a s : Nat) : ∀ j : Nat, j < 5 + n + t → pN n t c a s j ≠ .clip_ := by
  intro j hj
  by_cases b_super_ : (j : Int) < 2
  · rw [pN_super_ (by omega) b_super_]; decide
  by_cases b_state_ : (j : Int) < 3
  · rw [pN_state_ (by omega) b_state_]; decide
  by_cases b_map_ : (j : Int) < 4
  · rw [pN_map_ (by omega) b_map_]; decide
  by_cases b_classes_ : (j : Int) < 5
  · rw [pN_classes_ (by omega) b_classes_]; decide
  by_cases b_index_ : (j : Int) < 5 + (n : Int)
  · rw [pN_index_ (by omega) b_index_]; decide
  by_cases b_text_ : (j : Int) < 5 + (n : Int) + (t : Int)
  · rw [pN_text_ (by omega) b_text_]; decide
  omega
theorem before_audit_ (n t c a s : Nat) : ∀ j : Nat, j < 5 + n + t + c → pN n t c a s j ≠ .audit_ := by
  intro j hj
  by_cases b_super_ : (j : Int) < 2
  · rw [pN_super_ (by omega) b_super_]; decide
  by_cases b_state_ : (j : Int) < 3
  · rw [pN_state_ (by omega) b_state_]; decide
  by_cases b_map_ : (j : Int) < 4
  · rw [pN_map_ (by omega) b_map_]; decide
  by_cases b_classes_ : (j : Int) < 5
  · rw [pN_classes_ (by omega) b_classes_]; decide
  by_cases b_index_ : (j : Int) < 5 + (n : Int)
  · rw [pN_index_ (by omega) b_index_]; decide
  by_cases b_text_ : (j : Int) < 5 + (n : Int) + (t : Int)
  · rw [pN_text_ (by omega) b_text_]; decide
  by_cases b_clip_ : (j : Int) < 5 + (n : Int) + (t : Int) + (c : Int)
  · rw [pN_clip_ (by omega) b_clip_]; decide
  omega
theorem before_head_ (n t c a s : Nat) : ∀ j : Nat, j < 5 + n + t + c + a → pN n t c a s j ≠ .head_ := by
  intro j hj
  by_cases b_super_ : (j : Int) < 2
  · rw [pN_super_ (by omega) b_super_]; decide
  by_cases b_state_ : (j : Int) < 3
  · rw [pN_state_ (by omega) b_state_]; decide
  by_cases b_map_ : (j : Int) < 4
  · rw [pN_map_ (by omega) b_map_]; decide
  by_cases b_classes_ : (j : Int) < 5
  · rw [pN_classes_ (by omega) b_classes_]; decide
  by_cases b_index_ : (j : Int) < 5 + (n : Int)
  · rw [pN_index_ (by omega) b_index_]; decide
  by_cases b_text_ : (j : Int) < 5 + (n : Int) + (t : Int)
  · rw [pN_text_ (by omega) b_text_]; decide
  by_cases b_clip_ : (j : Int) < 5 + (n : Int) + (t : Int) + (c : Int)
  · rw [pN_clip_ (by omega) b_clip_]; decide
  by_cases b_audit_ : (j : Int) < 5 + (n : Int) + (t : Int) + (c : Int) + (a : Int)
  · rw [pN_audit_ (by omega) b_audit_]; decide
  omega
theorem before_body_ (n t c a s : Nat) : ∀ j : Nat, j < 5 + n + t + c + a + 1 → pN n t c a s j ≠ .body_ := by
  intro j hj
  by_cases b_super_ : (j : Int) < 2
  · rw [pN_super_ (by omega) b_super_]; decide
  by_cases b_state_ : (j : Int) < 3
  · rw [pN_state_ (by omega) b_state_]; decide
  by_cases b_map_ : (j : Int) < 4
  · rw [pN_map_ (by omega) b_map_]; decide
  by_cases b_classes_ : (j : Int) < 5
  · rw [pN_classes_ (by omega) b_classes_]; decide
  by_cases b_index_ : (j : Int) < 5 + (n : Int)
  · rw [pN_index_ (by omega) b_index_]; decide
  by_cases b_text_ : (j : Int) < 5 + (n : Int) + (t : Int)
  · rw [pN_text_ (by omega) b_text_]; decide
  by_cases b_clip_ : (j : Int) < 5 + (n : Int) + (t : Int) + (c : Int)
  · rw [pN_clip_ (by omega) b_clip_]; decide
  by_cases b_audit_ : (j : Int) < 5 + (n : Int) + (t : Int) + (c : Int) + (a : Int)
  · rw [pN_audit_ (by omega) b_audit_]; decide
  by_cases b_head_ : (j : Int) < 5 + (n : Int) + (t : Int) + (c : Int) + (a : Int) + 1
  · rw [pN_head_ (by omega) b_head_]; decide
  omega
theorem before_slot_ (n t c a s : Nat) : ∀ j : Nat, j < 5 + n + t + c + a + 1 + (n + 9 + t) → pN n t c a s j ≠ .slot_ := by
  intro j hj
  by_cases b_super_ : (j : Int) < 2
  · rw [pN_super_ (by omega) b_super_]; decide
  by_cases b_state_ : (j : Int) < 3
  · rw [pN_state_ (by omega) b_state_]; decide
  by_cases b_map_ : (j : Int) < 4
  · rw [pN_map_ (by omega) b_map_]; decide
  by_cases b_classes_ : (j : Int) < 5
  · rw [pN_classes_ (by omega) b_classes_]; decide
  by_cases b_index_ : (j : Int) < 5 + (n : Int)
  · rw [pN_index_ (by omega) b_index_]; decide
  by_cases b_text_ : (j : Int) < 5 + (n : Int) + (t : Int)
  · rw [pN_text_ (by omega) b_text_]; decide
  by_cases b_clip_ : (j : Int) < 5 + (n : Int) + (t : Int) + (c : Int)
  · rw [pN_clip_ (by omega) b_clip_]; decide
  by_cases b_audit_ : (j : Int) < 5 + (n : Int) + (t : Int) + (c : Int) + (a : Int)
  · rw [pN_audit_ (by omega) b_audit_]; decide
  by_cases b_head_ : (j : Int) < 5 + (n : Int) + (t : Int) + (c : Int) + (a : Int) + 1
  · rw [pN_head_ (by omega) b_head_]; decide
  by_cases b_body_ : (j : Int) < 5 + (n : Int) + (t : Int) + (c : Int) + (a : Int) + 1 + ((n : Int) + (t : Int) + 9)
  · rw [pN_body_ (by omega) b_body_]; decide
  omega
end Go.Proofs.Ytabigpbnacfajaa
