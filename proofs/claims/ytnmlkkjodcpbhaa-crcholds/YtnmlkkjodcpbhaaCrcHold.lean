/-
  The contract of crc.Holds.
-/
import Derived.Test.YtnmlkkjodcpbhaaCrcFour
import Derived.Test.YtnmlkkjodcpbhaaArrEq
import Derived.Deep.RegionHeld3
import Derived.Deep.MidRow
import Derived.Laws.Cover3
namespace Go.Proofs.Ytnmlkkjodcpbhaa
open Go.RowKit
set_option linter.unusedVariables false

theorem Try.cells5 : Try.prog.cellsOf 5 = 1 := by kernel_rfl
theorem Try.guard4 : Try.prog.eqGuardType Try.prog.depth 36 = false := by kernel_rfl

theorem below_from_drew {w w' : World} (h : Below w.drew.heap.size w.drew w') : Below w.heap.size w w' := ⟨h.os, h.tape, h.output, h.size, h.block⟩

set_option maxHeartbeats 400000 in
theorem holds_short (A : Option Addr) (n c : Nat) (w : World) (hl : n < 4) :
    Calls Try.prog 13 #[.slice A n c] w fun e w' => e = .returned (.bool false) ∧ w = w' := by
  go_enter Try.func13, Try.ntmps13
  go_wp2
  go_ret
  exact ⟨rfl, rfl⟩

set_option maxHeartbeats 400000 in
theorem holds_long (b o m c : Nat) (a t : List UInt8) (w : World) (B : Nat) (hB : B ≤ w.heap.size) (h : Lies w B (some ⟨b, o, none⟩) (a ++ t)) (ha : m = a.length) (ht : t.length = 4) (hc : m + 4 ≤ c) (hm : c ≤ 9223372036854775807) (hb : b < B) :
    Calls Try.prog 13 #[.slice (some ⟨b, o, none⟩) (m + 4) c] w fun e w' => e = .returned (.bool (t == four (crcOf a))) ∧ Below w.heap.size w w' := by
  have Ha := Lib.hid ha
  have Ht := Lib.hid ht
  have H := Lib.hid h
  clear ha ht h
  have hcm : ¬ c = m := by omega
  have hi0 : (0 : Int) ≤ (m : Int) := by omega
  have hi1 : (m : Int) ≤ (m : Int) + 4 := by omega
  have hi2 : (m : Int) ≤ (c : Int) := by omega
  have hR : w.drew.rangeAt b (o + m) (cells t) := by
    intro j v hv
    obtain ⟨x, hx, rfl⟩ := cells_of hv
    obtain ⟨b', o', e, _, hcell⟩ := H.out (by intro e; have := congrArg List.length e; simp [Ht.out] at this)
    simp only [Option.some.injEq, Addr.mk.injEq, and_true] at e
    obtain ⟨rfl, rfl⟩ := e
    have := hcell (m + j) x (by rw [List.getElem?_append_right (by rw [Ha.out]; omega), Ha.out, Nat.add_sub_cancel_left]; exact hx)
    rw [← Nat.add_assoc] at this
    exact this
  have Hsz : Hid ((Try.prog.info? 36).map (·.size) = some (cells t).length) := by show _ = _; rw [Try.size4, cells_length, Ht.out]
  have hL1 : Lies w.drew B (some ⟨b, o, none⟩) a := by
    have := H.out.take m
    rw [Ha.out, List.take_left] at this
    exact this
  have hat : ∀ W, (Instr.arrayAt 36 (.slice (some ⟨b, o + m, none⟩) 4 (c - m))).run Try.prog W = .ok (.pointer (some ⟨b, o + m, none⟩)) W := fun W => run_arrayAt W 36 _ 4 _ 4 (c - m) Try.underlying36 (Nat.le_refl _)
  go_enter Try.func13, Try.ntmps13
  go_wp2_with fail
  refine wp_region_held_drew (S := fun W => W.rangeAt b (o + m) (cells t)) (by kernel_rfl) hR (fun hHeld => ?_)
  refine wpAnyH_take (i := 0) (oi := ⟨_, _, _, _, _, _⟩) (v := ?_) rfl (by kernel_rfl) (by kernel_rfl) (by kernel_rfl) (fun _ _ _ h => h) (Or.inl ⟨by rfl, ?_⟩) (by assumption) ?_
  rotate_left
  · intro W hSW; (try dsimp only at hSW); go_simp; try with_reducible rfl
  try simp only [Act.put, List.setIfInBounds_toArray, List.set_cons_zero, List.set_cons_succ]
  refine wpAnyH_take (i := 1) (oi := ⟨_, _, _, _, _, _⟩) (v := ?_) rfl (by kernel_rfl) (by kernel_rfl) (by kernel_rfl) (fun _ _ _ h => h) (Or.inl ⟨by rfl, ?_⟩) (by assumption) ?_
  rotate_left
  · intro W hSW; (try dsimp only at hSW); go_simp; try with_reducible rfl
  try simp only [Act.put, List.setIfInBounds_toArray, List.set_cons_zero, List.set_cons_succ]
  refine wpAnyH_take (i := 2) (oi := ⟨_, _, _, _, _, _⟩) (v := ?_) rfl (by kernel_rfl) (by kernel_rfl) (by kernel_rfl) (fun _ _ _ h => h) (Or.inl ⟨by rfl, ?_⟩) (by assumption) ?_
  rotate_left
  · intro W hSW; (try dsimp only at hSW); go_simp; try with_reducible rfl
  try simp only [Act.put, List.setIfInBounds_toArray, List.set_cons_zero, List.set_cons_succ]
  refine wpAnyH_take (i := 3) (oi := ⟨_, _, _, _, _, _⟩) (v := ?_) rfl (by kernel_rfl) (by kernel_rfl) (by kernel_rfl) (fun _ _ _ h => h) (Or.inl ⟨by rfl, ?_⟩) (by assumption) ?_
  rotate_left
  · intro W hSW; (try dsimp only at hSW); go_simp; try with_reducible rfl
  try simp only [Act.put, List.setIfInBounds_toArray, List.set_cons_zero, List.set_cons_succ]
  refine wpAnyH_take (i := 4) (oi := ⟨_, _, _, _, _, _⟩) (v := ?_) rfl (by kernel_rfl) (by kernel_rfl) (by kernel_rfl) (fun _ _ _ h => h) (Or.inl ⟨by rfl, ?_⟩) (by assumption) ?_
  rotate_left
  · intro W hSW; refine exec_load_mid 36 (.tmp 12) ?_ b (o + m) ?_ (cells t) _ hSW Try.underlying36 rfl Hsz.out <;> rfl
  try simp only [Act.put, List.setIfInBounds_toArray, List.set_cons_zero, List.set_cons_succ]
  refine wpAnyH_take (i := 5) (oi := ⟨_, _, _, _, _, _⟩) (v := ?_) rfl (by kernel_rfl) (by kernel_rfl) (by kernel_rfl) (fun _ _ _ h => h) (Or.inl ⟨by rfl, ?_⟩) (by assumption) ?_
  rotate_left
  · intro W hSW; (try dsimp only at hSW); go_simp; try with_reducible rfl
  try simp only [Act.put, List.setIfInBounds_toArray, List.set_cons_zero, List.set_cons_succ]
  refine wpAnyH_take (i := 6) (oi := ⟨_, _, _, _, _, _⟩) (v := ?_) rfl (by kernel_rfl) (by kernel_rfl) (by kernel_rfl) (fun _ _ _ h => h) (Or.inl ⟨by rfl, ?_⟩) (by assumption) ?_
  rotate_left
  · intro W hSW; (try dsimp only at hSW); go_simp; try with_reducible rfl
  try simp only [Act.put, List.setIfInBounds_toArray, List.set_cons_zero, List.set_cons_succ]
  refine wpAnyH_take (i := 7) (oi := ⟨_, _, _, _, _, _⟩) (v := ?_) rfl (by kernel_rfl) (by kernel_rfl) (by kernel_rfl) (fun _ _ _ h => h) (Or.inl ⟨by rfl, ?_⟩) (by assumption) ?_
  rotate_left
  · intro W hSW; (try dsimp only at hSW); go_simp; try with_reducible rfl
  try simp only [Act.put, List.setIfInBounds_toArray, List.set_cons_zero, List.set_cons_succ]
  refine wpAnyH_ready (rs := [8]) (by kernel_rfl) (by simp) ?_
  refine AllReadyH.cons (o := ⟨_, _, _, _, _, _⟩) rfl (fun K hK => ?_) AllReadyH.nil
  go_simp
  refine (of_any _ _ _ a _ B hL1 Ha.out (by omega)).mono ?_
  rintro e w' ⟨rfl, rfl⟩
  try simp only []
  refine hK.out _ _ ?_ (fun hHeld => ?_)
  · exact hR
  clear hK K
  try simp only [Act.put, List.setIfInBounds_toArray, List.set_cons_zero, List.set_cons_succ]
  refine wpAnyH_ready (rs := [9]) (by kernel_rfl) (by simp) ?_
  refine AllReadyH.cons (o := ⟨_, _, _, _, _, _⟩) rfl (fun K hK => ?_) AllReadyH.nil
  go_simp
  refine (four_any (crcOf a) _).mono ?_
  rintro e w1 ⟨rfl, hb1⟩
  try simp only []
  refine hK.out _ _ ?_ (fun hHeld => ?_)
  · exact fun j v hj => (hb1.cell (p := ⟨b, o + m + j, none⟩) (Nat.lt_of_lt_of_le hb hB)).trans (hR j v hj)
  clear hK K
  try simp only [Act.put, List.setIfInBounds_toArray, List.set_cons_zero, List.set_cons_succ]
  refine wpAnyH_take (i := 10) (oi := ⟨_, _, _, _, _, _⟩) (v := ?_) rfl (by kernel_rfl) (by kernel_rfl) (by kernel_rfl) (fun _ _ _ h => h) (Or.inl ⟨by rfl, ?_⟩) (by assumption) ?_
  rotate_left
  · intro W hSW; refine exec_eql_bytes 36 (.tmp 13) (.tmp 18) 36 ?_ Try.underlying36 Try.underlying5 Try.cells5 Try.guard4 (xs := t) (ys := four (crcOf a)) ?_ ?_ Ht.out (four_length _) <;> rfl
  try simp only [Act.put, List.setIfInBounds_toArray, List.set_cons_zero, List.set_cons_succ]
  refine wpAnyH_take (i := 11) (oi := ⟨_, _, _, _, _, _⟩) (v := ?_) rfl (by kernel_rfl) (by kernel_rfl) (by kernel_rfl) (fun _ _ _ h => h) (Or.inl ⟨by rfl, ?_⟩) (by assumption) ?_
  rotate_left
  · intro W hSW; (try dsimp only at hSW); go_simp; try with_reducible rfl
  try simp only [Act.put, List.setIfInBounds_toArray, List.set_cons_zero, List.set_cons_succ]
  refine wpAnyH_done (by kernel_rfl) ?_ _
  go_wp2
  go_ret
  exact ⟨rfl, below_from_drew hb1⟩

theorem holds_any (A : Option Addr) (n c : Nat) (xs : List UInt8) (w : World) (B : Nat) (h : Lies w B A xs) (hB : B ≤ w.heap.size) (hn : n = xs.length) (hc : n ≤ c) (hm : c ≤ 9223372036854775807) :
    Calls Try.prog 13 #[.slice A n c] w fun e w' => e = .returned (.bool (holdsB xs)) ∧ Below w.heap.size w w' := by
  by_cases h4 : n < 4
  · refine (holds_short A n c w h4).mono ?_
    rintro e w' ⟨rfl, rfl⟩
    refine ⟨?_, Below.refl _ _⟩
    unfold holdsB
    rw [decide_eq_false (by omega), Bool.false_and]
  · have hx : xs ≠ [] := by rintro rfl; simp at hn; omega
    obtain ⟨b, o, rfl, hb, _⟩ := h hx
    obtain ⟨m, rfl⟩ : ∃ m, n = m + 4 := ⟨n - 4, by omega⟩
    have e : xs.length - 4 = m := by omega
    have h' := h
    rw [← List.take_append_drop m xs] at h'
    refine (holds_long b o m c (xs.take m) (xs.drop m) w B hB h' (by rw [List.length_take]; omega) (by rw [List.length_drop]; omega) hc hm hb).mono ?_
    rintro e w' ⟨rfl, hb'⟩
    refine ⟨?_, hb'⟩
    unfold holdsB
    rw [e, decide_eq_true (by omega), Bool.true_and]
end Go.Proofs.Ytnmlkkjodcpbhaa
