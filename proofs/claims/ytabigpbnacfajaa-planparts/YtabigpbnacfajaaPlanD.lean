/-
  Layer 7: the names of the parts; the contract of Part.
-/
import Derived.Test.YtabigpbnacfajaaPlanC
namespace Go.Proofs.Ytabigpbnacfajaa
open Go.RowKit
set_option linter.unusedVariables false

/-- The names of the parts, and none. -/
inductive Nm where | no | super_ | state_ | map_ | classes_ | index_ | text_ | clip_ | audit_ | head_ | body_ | slot_
  deriving DecidableEq
def Nm.b : Nm → ByteArray
  | .no => ⟨#[]⟩
  | .super_ => ⟨#[115, 117, 112, 101, 114]⟩
  | .state_ => ⟨#[115, 116, 97, 116, 101]⟩
  | .map_ => ⟨#[109, 97, 112]⟩
  | .classes_ => ⟨#[99, 108, 97, 115, 115, 101, 115]⟩
  | .index_ => ⟨#[105, 110, 100, 101, 120]⟩
  | .text_ => ⟨#[116, 101, 120, 116]⟩
  | .clip_ => ⟨#[99, 108, 105, 112]⟩
  | .audit_ => ⟨#[97, 117, 100, 105, 116]⟩
  | .head_ => ⟨#[104, 101, 97, 100]⟩
  | .body_ => ⟨#[98, 111, 100, 121]⟩
  | .slot_ => ⟨#[115, 108, 111, 116]⟩
def Nm.v (n : Nm) : Value := .string n.b
/-- Where a sector stands, by where the parts begin. -/
def partN (x2 x3 x4 x5 x6 x7 x8 at_ : Int) : Nm :=
  if at_ < 0 then .no else if x8 ≤ at_ then .no else if at_ < 2 then .super_ else if at_ < 3 then .state_ else if at_ < 4 then .map_ else if at_ < 5 then .classes_ else
  if at_ < x2 then .index_ else if at_ < x3 then .text_ else if at_ < x4 then .clip_ else if at_ < x5 then .audit_ else if at_ < x6 then .head_ else if at_ < x7 then .body_ else .slot_

set_option maxRecDepth 100000 in
set_option maxHeartbeats 4000000 in
theorem part_any (w : World) (s t c a x1 x2 x3 x4 x5 x6 x7 x8 x9 x10 at_ : Int) :
    Calls Try.prog 14 #[.agg (lcs s t c a x1 x2 x3 x4 x5 x6 x7 x8 x9 x10).toArray, .int .i64 at_] w fun e w' => e = .returned (partN x2 x3 x4 x5 x6 x7 x8 at_).v ∧ Below w.heap.size w w' := by
  go_enter Try.func14, Try.ntmps14
  go_wp2_with ((with_reducible refine at_box 25 ?_); refine wpList_box_rowV rfl 25 _ rfl (lcs s t c a x1 x2 x3 x4 x5 x6 x7 x8 x9 x10) rfl ?_)
  intro w1 hr1 hb1 hz1
  have c11 := hr1.cell (i := 11) rfl
  have c5 := hr1.cell (i := 5) rfl
  have c6 := hr1.cell (i := 6) rfl
  have c7 := hr1.cell (i := 7) rfl
  have c8 := hr1.cell (i := 8) rfl
  have c9 := hr1.cell (i := 9) rfl
  have c10 := hr1.cell (i := 10) rfl
  by_cases h0 : at_ < 0
  · have h0g := h0
    go_wp2_with fail
    go_ret
    exact ⟨by rw [partN, if_pos h0g]; rfl, hb1⟩
  · have h0g : 0 ≤ at_ := by omega
    clear h0
    by_cases h1 : x8 ≤ at_
    · have h1g := h1
      go_wp2_with fail
      go_ret
      exact ⟨by rw [partN, if_neg (Int.not_lt.2 h0g), if_pos h1g]; rfl, hb1⟩
    · have h1g : at_ < x8 := by omega
      clear h1
      by_cases h2 : at_ < 2
      · have h2g := h2
        go_wp2_with fail
        go_ret
        exact ⟨by rw [partN, if_neg (Int.not_lt.2 h0g), if_neg (Int.not_le.2 h1g), if_pos h2g]; rfl, hb1⟩
      · have h2g : 2 ≤ at_ := by omega
        clear h2
        by_cases h3 : at_ < 3
        · have h3g := h3
          go_wp2_with fail
          go_ret
          exact ⟨by rw [partN, if_neg (Int.not_lt.2 h0g), if_neg (Int.not_le.2 h1g), if_neg (Int.not_lt.2 h2g), if_pos h3g]; rfl, hb1⟩
        · have h3g : 3 ≤ at_ := by omega
          clear h3
          by_cases h4 : at_ < 4
          · have h4g := h4
            go_wp2_with fail
            go_ret
            exact ⟨by rw [partN, if_neg (Int.not_lt.2 h0g), if_neg (Int.not_le.2 h1g), if_neg (Int.not_lt.2 h2g), if_neg (Int.not_lt.2 h3g), if_pos h4g]; rfl, hb1⟩
          · have h4g : 4 ≤ at_ := by omega
            clear h4
            by_cases h5 : at_ < 5
            · have h5g := h5
              go_wp2_with fail
              go_ret
              exact ⟨by rw [partN, if_neg (Int.not_lt.2 h0g), if_neg (Int.not_le.2 h1g), if_neg (Int.not_lt.2 h2g), if_neg (Int.not_lt.2 h3g), if_neg (Int.not_lt.2 h4g), if_pos h5g]; rfl, hb1⟩
            · have h5g : 5 ≤ at_ := by omega
              clear h5
              by_cases h6 : at_ < x2
              · have h6g := h6
                go_wp2_with fail
                go_ret
                exact ⟨by rw [partN, if_neg (Int.not_lt.2 h0g), if_neg (Int.not_le.2 h1g), if_neg (Int.not_lt.2 h2g), if_neg (Int.not_lt.2 h3g), if_neg (Int.not_lt.2 h4g), if_neg (Int.not_lt.2 h5g), if_pos h6g]; rfl, hb1⟩
              · have h6g : x2 ≤ at_ := by omega
                clear h6
                by_cases h7 : at_ < x3
                · have h7g := h7
                  go_wp2_with fail
                  go_ret
                  exact ⟨by rw [partN, if_neg (Int.not_lt.2 h0g), if_neg (Int.not_le.2 h1g), if_neg (Int.not_lt.2 h2g), if_neg (Int.not_lt.2 h3g), if_neg (Int.not_lt.2 h4g), if_neg (Int.not_lt.2 h5g), if_neg (Int.not_lt.2 h6g), if_pos h7g]; rfl, hb1⟩
                · have h7g : x3 ≤ at_ := by omega
                  clear h7
                  by_cases h8 : at_ < x4
                  · have h8g := h8
                    go_wp2_with fail
                    go_ret
                    exact ⟨by rw [partN, if_neg (Int.not_lt.2 h0g), if_neg (Int.not_le.2 h1g), if_neg (Int.not_lt.2 h2g), if_neg (Int.not_lt.2 h3g), if_neg (Int.not_lt.2 h4g), if_neg (Int.not_lt.2 h5g), if_neg (Int.not_lt.2 h6g), if_neg (Int.not_lt.2 h7g), if_pos h8g]; rfl, hb1⟩
                  · have h8g : x4 ≤ at_ := by omega
                    clear h8
                    by_cases h9 : at_ < x5
                    · have h9g := h9
                      go_wp2_with fail
                      go_ret
                      exact ⟨by rw [partN, if_neg (Int.not_lt.2 h0g), if_neg (Int.not_le.2 h1g), if_neg (Int.not_lt.2 h2g), if_neg (Int.not_lt.2 h3g), if_neg (Int.not_lt.2 h4g), if_neg (Int.not_lt.2 h5g), if_neg (Int.not_lt.2 h6g), if_neg (Int.not_lt.2 h7g), if_neg (Int.not_lt.2 h8g), if_pos h9g]; rfl, hb1⟩
                    · have h9g : x5 ≤ at_ := by omega
                      clear h9
                      by_cases h10 : at_ < x6
                      · have h10g := h10
                        go_wp2_with fail
                        go_ret
                        exact ⟨by rw [partN, if_neg (Int.not_lt.2 h0g), if_neg (Int.not_le.2 h1g), if_neg (Int.not_lt.2 h2g), if_neg (Int.not_lt.2 h3g), if_neg (Int.not_lt.2 h4g), if_neg (Int.not_lt.2 h5g), if_neg (Int.not_lt.2 h6g), if_neg (Int.not_lt.2 h7g), if_neg (Int.not_lt.2 h8g), if_neg (Int.not_lt.2 h9g), if_pos h10g]; rfl, hb1⟩
                      · have h10g : x6 ≤ at_ := by omega
                        clear h10
                        by_cases h11 : at_ < x7
                        · have h11g := h11
                          go_wp2_with fail
                          go_ret
                          exact ⟨by rw [partN, if_neg (Int.not_lt.2 h0g), if_neg (Int.not_le.2 h1g), if_neg (Int.not_lt.2 h2g), if_neg (Int.not_lt.2 h3g), if_neg (Int.not_lt.2 h4g), if_neg (Int.not_lt.2 h5g), if_neg (Int.not_lt.2 h6g), if_neg (Int.not_lt.2 h7g), if_neg (Int.not_lt.2 h8g), if_neg (Int.not_lt.2 h9g), if_neg (Int.not_lt.2 h10g), if_pos h11g]; rfl, hb1⟩
                        · have h11g : x7 ≤ at_ := by omega
                          clear h11
                          go_wp2_with fail
                          go_ret
                          exact ⟨by rw [partN, if_neg (Int.not_lt.2 h0g), if_neg (Int.not_le.2 h1g), if_neg (Int.not_lt.2 h2g), if_neg (Int.not_lt.2 h3g), if_neg (Int.not_lt.2 h4g), if_neg (Int.not_lt.2 h5g), if_neg (Int.not_lt.2 h6g), if_neg (Int.not_lt.2 h7g), if_neg (Int.not_lt.2 h8g), if_neg (Int.not_lt.2 h9g), if_neg (Int.not_lt.2 h10g), if_neg (Int.not_lt.2 h11g)]; rfl, hb1⟩
end Go.Proofs.Ytabigpbnacfajaa
