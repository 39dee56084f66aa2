/-
  The walk of the law CrcHolds.
-/
import Derived.Test.YtnmlkkjodcpbhaaCrcWorks
import Derived.Test.YtnmlkkjodcpbhaaROf
import Derived.Test.YtnmlkkjodcpbhaaRGet
import Derived.Test.YtnmlkkjodcpbhaaRSame
import Derived.Deep.RegionHeld3
namespace Go.Proofs.Ytnmlkkjodcpbhaa
open Go.RowKit
set_option linter.unusedVariables false

theorem want_eq (a t : List UInt8) (ht : t.length = 4) : (nv (crcOf a) == ((leN t : Nat) : Int)) = holdsB (a ++ t) := by
  have e : (a ++ t).length - 4 = a.length := by rw [List.length_append, ht]; omega
  unfold holdsB
  rw [e, decide_eq_true (by rw [List.length_append, ht]; omega), Bool.true_and, List.drop_left, List.take_left, Bool.eq_iff_iff, beq_iff_eq, beq_iff_eq]
  unfold nv
  constructor
  · intro h
    have h' : leN t = (crcOf a).toNat := by omega
    unfold four
    rw [← h', ← ht, putB_leN]
  · intro h
    rw [h, leN_four]

/-- What is told of the sealed row s and of the bytes b, in one world. -/
structure Sealing (W : World) (A : Option Addr) (n g cap : Nat) (xs : List UInt8) (R : Nat) : Prop where
  row : Lies W R (some ⟨g, 0, none⟩) (sealB xs)
  arg : Lies W R A xs
  le : R ≤ W.heap.size
theorem Sealing.below {W W' : World} {A : Option Addr} {n g cap : Nat} {xs : List UInt8} {R : Nat} (h : Sealing W A n g cap xs R) (hb : Below W.heap.size W W') : Sealing W' A n g cap xs R :=
  ⟨h.row.below (hb.mono h.le), h.arg.below (hb.mono h.le), Nat.le_trans h.le hb.size⟩
theorem Sealing.drewN {W : World} {A : Option Addr} {n g cap : Nat} {xs : List UInt8} {R : Nat} (h : Sealing W A n g cap xs R) (k : Nat) : Sealing (W.drewN k) A n g cap xs R := ⟨h.row, h.arg, h.le⟩

theorem Sealing.head {W : World} {A : Option Addr} {n g cap : Nat} {xs : List UInt8} {R : Nat} (h : Sealing W A n g cap xs R) (hn : n = xs.length) : Lies W R (some ⟨g, 0, none⟩) xs := by
  have := h.row.take n
  rwa [sealB, hn, List.take_left] at this
theorem Sealing.foot {W : World} {A : Option Addr} {n g cap : Nat} {xs : List UInt8} {R : Nat} (h : Sealing W A n g cap xs R) (hn : n = xs.length) : Lies W R (some ⟨g, n, none⟩) (four (crcOf xs)) := by
  have := h.row.drop (k := n) (c := n + 4) (by rw [sealB_length, hn]; exact Nat.le_refl _)
  rw [if_neg (by omega), sealB, hn, List.drop_left] at this
  simp only [Option.map_some, Addr.add_lit, Nat.zero_add] at this
  rw [hn]
  exact this
theorem four_get (s : BitVec 32) : ((leN ((four s).take 8) : Nat) : Int) = nv s := by
  rw [List.take_of_length_le (by rw [four_length]; omega), leN_four]
  rfl

set_option maxHeartbeats 1000000 in
theorem holds_long' (A : Option Addr) (n c : Nat) (xs : List UInt8) (w : World) (hn : n = xs.length) (hc : n ≤ c) (hm : c ≤ maxLen) (hl : Lies w w.heap.size A xs) (h3 : n ≤ 300) (h4 : 4 ≤ n) :
    Calls Try.prog 5 #[.slice A n c] w fun e w' => e = .returned (.bool true) ∧ Below w.heap.size w w' := by
  have hm' : c ≤ 9223372036854775807 := by unfold maxLen at hm; exact hm
  obtain ⟨m, rfl⟩ : ∃ m, n = m + 4 := ⟨n - 4, by omega⟩
  have Hn := Lib.hid hn
  have H4 : Hid (4 = (xs.drop m).length) := by show _ = _; rw [List.length_drop]; omega
  have Hm : Hid (m = (xs.take m).length) := by show _ = _; rw [List.length_take]; omega
  have H8 : Hid ((xs.drop m).take 8 = xs.drop m) := by show _ = _; rw [List.take_of_length_le (by have := H4.out; omega)]
  have Hw : Hid ((nv (crcOf (xs.take m)) == ((leN (xs.drop m) : Nat) : Int)) = holdsB xs) := by show _ = _; rw [want_eq _ _ H4.out.symm, List.take_append_drop]
  have hlt : leN (xs.drop m) < 4294967296 := by have := leN_lt (xs.drop m); rw [← H4.out] at this; omega
  obtain ⟨b, o, rfl, hbb, _⟩ := hl (by rintro rfl; simp at hn)
  have hcm : ¬ c = m := by omega
  have LT0 := hl.take m
  have LD0 := hl.drop (k := m) (c := c) (by omega)
  rw [if_neg hcm] at LD0
  simp only [Option.map_some, Addr.add_lit] at LD0
  have Hl := Lib.hid hl
  have hd3 : decide (300 < (m : Int) + 4) = false := by simp; omega
  have hd4 : decide (4 ≤ (m : Int) + 4) = true := decide_eq_true (by omega)
  clear hn hl
  go_enter Try.func5, Try.ntmps5
  go_wp2_with fail
  refine (sealed_own _ _ _ xs _ _ Hl.out (Nat.le_refl _) Hn.out (by omega)).mono ?_
  rintro e w1 ⟨v1, rfl, hown1, hb1⟩
  rw [sealB_length, ← Hn.out] at hown1
  obtain ⟨g, cap, rfl⟩ := Joins.ownsRow_form hown1 (by omega)
  obtain ⟨A', c', hv, hk1, hk2, hk3, hk4⟩ := Lies.of_own hown1
  simp only [Value.slice.injEq] at hv
  obtain ⟨rfl, hzz, rfl⟩ := hv
  clear hzz hk1
  have hs2 : w.heap.size ≤ w1.drew.heap.size := hb1.size
  have LT := Lib.hid (LT0.below hb1).drew
  have LD := Lib.hid (LD0.below hb1).drew
  have SE : Sealing w1.drew (some ⟨b, o, none⟩) (m + 4) g cap xs w1.heap.size := ⟨hk4, (Hl.out.below hb1).le hb1.size, Nat.le_refl _⟩
  clear hk4 LT0 LD0
  go_wp2_with fail
  have hw1 : IntKind.i64.wrap (m : Int) = (m : Int) := IntWalk.i64_in _ (by omega)
  have hw2 : IntKind.u32.wrap ((leN (xs.drop m) : Nat) : Int) = ((leN (xs.drop m) : Nat) : Int) := IntWalk.u32_in _ (by omega)
  have q1 : (0 : Int) ≤ (m : Int) := by omega
  have q2 : (m : Int) ≤ (c : Int) := by omega
  have q3 : (m : Int) ≤ (m : Int) + 4 := by omega
  refine wp_region_held_drew (S := fun _ => True) (by kernel_rfl) trivial (fun hHeld => ?_)
  refine wpAnyH_take (i := 0) (oi := ⟨_, _, _, _, _, _⟩) (v := ?_) rfl (by kernel_rfl) (by kernel_rfl) (by kernel_rfl) (fun _ _ _ h => h) (Or.inl ⟨by rfl, ?_⟩) (by assumption) ?_
  rotate_left
  · intro W hSW; (try dsimp only at hSW); go_simp; try with_reducible rfl
  try simp only [Act.put, List.setIfInBounds_toArray, List.set_cons_zero, List.set_cons_succ]
  refine wpAnyH_take (i := 1) (oi := ⟨_, _, _, _, _, _⟩) (v := ?_) rfl (by kernel_rfl) (by kernel_rfl) (by kernel_rfl) (fun _ _ _ h => h) (Or.inl ⟨by rfl, ?_⟩) (by assumption) ?_
  rotate_left
  · intro W hSW; (try dsimp only at hSW); go_simp; try with_reducible rfl
  try simp only [Act.put, List.setIfInBounds_toArray, List.set_cons_zero, List.set_cons_succ]
  refine wpAnyH_take (i := 2) (oi := ⟨_, _, _, _, _, _⟩) (v := ?_) rfl (by kernel_rfl) (by kernel_rfl) (by kernel_rfl) (fun _ _ _ h => h) (Or.inl ⟨by rfl, ?_⟩) (by assumption) ?_
  rotate_left
  · intro W hSW; (try dsimp only at hSW); go_simp; try with_reducible rfl
  try simp only [Act.put, List.setIfInBounds_toArray, List.set_cons_zero, List.set_cons_succ]
  refine wpAnyH_take (i := 3) (oi := ⟨_, _, _, _, _, _⟩) (v := ?_) rfl (by kernel_rfl) (by kernel_rfl) (by kernel_rfl) (fun _ _ _ h => h) (Or.inl ⟨by rfl, ?_⟩) (by assumption) ?_
  rotate_left
  · intro W hSW; (try dsimp only at hSW); go_simp; try with_reducible rfl
  try simp only [Act.put, List.setIfInBounds_toArray, List.set_cons_zero, List.set_cons_succ]
  refine wpAnyH_take (i := 4) (oi := ⟨_, _, _, _, _, _⟩) (v := ?_) rfl (by kernel_rfl) (by kernel_rfl) (by kernel_rfl) (fun _ _ _ h => h) (Or.inl ⟨by rfl, ?_⟩) (by assumption) ?_
  rotate_left
  · intro W hSW; (try dsimp only at hSW); go_simp; try with_reducible rfl
  try simp only [Act.put, List.setIfInBounds_toArray, List.set_cons_zero, List.set_cons_succ]
  refine wpAnyH_take (i := 6) (oi := ⟨_, _, _, _, _, _⟩) (v := ?_) rfl (by kernel_rfl) (by kernel_rfl) (by kernel_rfl) (fun _ _ _ h => h) (Or.inl ⟨by rfl, ?_⟩) (by assumption) ?_
  rotate_left
  · intro W hSW; (try dsimp only at hSW); go_simp; try with_reducible rfl
  try simp only [Act.put, List.setIfInBounds_toArray, List.set_cons_zero, List.set_cons_succ]
  refine wpAnyH_take (i := 7) (oi := ⟨_, _, _, _, _, _⟩) (v := ?_) rfl (by kernel_rfl) (by kernel_rfl) (by kernel_rfl) (fun _ _ _ h => h) (Or.inl ⟨by rfl, ?_⟩) (by assumption) ?_
  rotate_left
  · intro W hSW; (try dsimp only at hSW); go_simp; try with_reducible rfl
  try simp only [Act.put, List.setIfInBounds_toArray, List.set_cons_zero, List.set_cons_succ]
  refine wpAnyH_take (i := 8) (oi := ⟨_, _, _, _, _, _⟩) (v := ?_) rfl (by kernel_rfl) (by kernel_rfl) (by kernel_rfl) (fun _ _ _ h => h) (Or.inl ⟨by rfl, ?_⟩) (by assumption) ?_
  rotate_left
  · intro W hSW; (try dsimp only at hSW); go_simp; try with_reducible rfl
  try simp only [Act.put, List.setIfInBounds_toArray, List.set_cons_zero, List.set_cons_succ]
  refine wpAnyH_take (i := 9) (oi := ⟨_, _, _, _, _, _⟩) (v := ?_) rfl (by kernel_rfl) (by kernel_rfl) (by kernel_rfl) (fun _ _ _ h => h) (Or.inl ⟨by rfl, ?_⟩) (by assumption) ?_
  rotate_left
  · intro W hSW; (try dsimp only at hSW); go_simp; try with_reducible rfl
  try simp only [Act.put, List.setIfInBounds_toArray, List.set_cons_zero, List.set_cons_succ]
  refine wpAnyH_take (i := 10) (oi := ⟨_, _, _, _, _, _⟩) (v := ?_) rfl (by kernel_rfl) (by kernel_rfl) (by kernel_rfl) (fun _ _ _ h => h) (Or.inl ⟨by rfl, ?_⟩) (by assumption) ?_
  rotate_left
  · intro W hSW; (try dsimp only at hSW); go_simp; try with_reducible rfl
  try simp only [Act.put, List.setIfInBounds_toArray, List.set_cons_zero, List.set_cons_succ]
  refine wpAnyH_ready (rs := [5]) (by kernel_rfl) (by simp) ?_
  refine AllReadyH.cons (o := ⟨_, _, _, _, _, _⟩) rfl (fun K hK => ?_) AllReadyH.nil
  go_simp
  refine (rof_any _ _ _ (xs.take m) _ w.heap.size LT.out hs2 Hm.out (by omega)).mono ?_
  rintro e w3 ⟨rfl, hb3⟩
  try simp only []
  refine hK.out _ _ ?_ (fun hHeld => ?_)
  · trivial
  clear hK K
  try simp only [Act.put, List.setIfInBounds_toArray, List.set_cons_zero, List.set_cons_succ]
  refine wpAnyH_ready (rs := [11]) (by kernel_rfl) (by simp) ?_
  refine AllReadyH.cons (o := ⟨_, _, _, _, _, _⟩) rfl (fun K hK => ?_) AllReadyH.nil
  go_simp
  have LD3 := (LD.out.below (hb3.mono hs2))
  refine (rget_any (xs.drop m) _ _ _ _ w.heap.size H4.out (by omega) LD3).mono ?_
  rintro e w4 ⟨rfl, k4, rfl⟩
  have hb4 := below_drewN' hb3 k4
  generalize w3.drewN k4 = w4 at *
  rw [H8.out]
  try simp only []
  refine hK.out _ _ ?_ (fun hHeld => ?_)
  · trivial
  clear hK K
  try simp only [Act.put, List.setIfInBounds_toArray, List.set_cons_zero, List.set_cons_succ]
  refine wpAnyH_take (i := 12) (oi := ⟨_, _, _, _, _, _⟩) (v := ?_) rfl (by kernel_rfl) (by kernel_rfl) (by kernel_rfl) (fun _ _ _ h => h) (Or.inl ⟨by rfl, ?_⟩) (by assumption) ?_
  rotate_left
  · intro W hSW; (try dsimp only at hSW); go_simp; try with_reducible rfl
  try simp only [Act.put, List.setIfInBounds_toArray, List.set_cons_zero, List.set_cons_succ]
  refine wpAnyH_take (i := 13) (oi := ⟨_, _, _, _, _, _⟩) (v := ?_) rfl (by kernel_rfl) (by kernel_rfl) (by kernel_rfl) (fun _ _ _ h => h) (Or.inl ⟨by rfl, ?_⟩) (by assumption) ?_
  rotate_left
  · intro W hSW; (try dsimp only at hSW); go_simp; try with_reducible rfl
  try simp only [Act.put, List.setIfInBounds_toArray, List.set_cons_zero, List.set_cons_succ]
  refine wpAnyH_take (i := 14) (oi := ⟨_, _, _, _, _, _⟩) (v := ?_) rfl (by kernel_rfl) (by kernel_rfl) (by kernel_rfl) (fun _ _ _ h => h) (Or.inl ⟨by rfl, ?_⟩) (by assumption) ?_
  rotate_left
  · intro W hSW; (try dsimp only at hSW); go_simp; try with_reducible rfl
  try simp only [Act.put, List.setIfInBounds_toArray, List.set_cons_zero, List.set_cons_succ]
  refine wpAnyH_done (by kernel_rfl) ?_ _
  rw [Hw.out]
  have hT4 : Below w.heap.size w w4 := below_seq hb1 (below_from_drew hb4)
  have SE4 := SE.below hb4
  have HS : Hid (m + 4 + 4 = (sealB xs).length) := by show _ = _; rw [sealB_length, ← Hn.out]
  have hk3' : cap ≤ 9223372036854775807 := by unfold maxLen at hk3; exact hk3
  have hcn : ¬ cap = m + 4 := by omega
  generalize hR : w1.heap.size = R at SE4
  clear hb1 hb3 hb4 SE hs2 LT LD LD3 hHeld hw1 hw2 q1 q2 q3 hown1 hR
  go_wp2_with fail
  refine (holds_yes _ _ _ xs _ R SE4.row SE4.le HS.out hk2 hk3').mono ?_
  rintro e w5 ⟨rfl, hb5⟩
  have SE5 := SE4.below hb5
  have hT5 := below_seq hT4 hb5
  clear SE4 hT4 hb5
  go_wp2_with fail
  refine (same_any _ _ _ _ _ _ xs xs _ R Hn.out Hn.out (Sealing.head SE5 Hn.out) SE5.arg).mono ?_
  rintro e w' ⟨rfl, rfl⟩
  rw [beq_self_eq_true]
  go_wp2_with fail
  refine (rget_any (four (crcOf xs)) _ _ _ _ R (four_length _).symm (by omega) (Sealing.foot SE5 Hn.out)).mono ?_
  rintro e w6 ⟨rfl, k6, rfl⟩
  rw [four_get]
  have SE6 := SE5.drewN k6
  have hT6 := below_drewN' hT5 k6
  generalize w5.drewN k6 = w6 at *
  clear SE5 hT5
  go_wp2_with fail
  refine (of_any _ _ _ xs _ R SE6.arg Hn.out (by omega)).mono ?_
  rintro e w' ⟨rfl, rfl⟩
  have hnv := nv_bd (crcOf xs)
  go_wp2_with fail
  refine (holds_any _ _ _ xs _ R SE6.arg SE6.le Hn.out (by omega) (by omega)).mono ?_
  rintro e w7 ⟨rfl, hb7⟩
  have hT7 := below_seq hT6 hb7
  clear SE6 hT6 hb7
  go_wp2_with fail
  refine (works02_any w7).mono ?_
  rintro e w8 ⟨rfl, hb8⟩
  go_wp2_with fail
  go_ret
  exact ⟨rfl, below_seq hT7 hb8⟩

set_option maxHeartbeats 1000000 in
theorem holds_few (A : Option Addr) (n c : Nat) (xs : List UInt8) (w : World) (hn : n = xs.length) (hc : n ≤ c) (hm : c ≤ maxLen) (hl : Lies w w.heap.size A xs) (h4 : n < 4) :
    Calls Try.prog 5 #[.slice A n c] w fun e w' => e = .returned (.bool true) ∧ Below w.heap.size w w' := by
  have hm' : c ≤ 9223372036854775807 := by unfold maxLen at hm; exact hm
  have Hn := Lib.hid hn
  have Hw : Hid (holdsB xs = false) := by show _ = _; unfold holdsB; rw [decide_eq_false (by omega), Bool.false_and]
  have Hl := Lib.hid hl
  have hd3 : decide (300 < (n : Int)) = false := by simp; omega
  have hd4 : decide (4 ≤ (n : Int)) = false := by simp; omega
  clear hn hl
  go_enter Try.func5, Try.ntmps5
  go_wp2_with fail
  refine (sealed_own _ _ _ xs _ _ Hl.out (Nat.le_refl _) Hn.out (by omega)).mono ?_
  rintro e w1 ⟨v1, rfl, hown1, hb1⟩
  rw [sealB_length, ← Hn.out] at hown1
  obtain ⟨g, cap, rfl⟩ := Joins.ownsRow_form hown1 (by omega)
  obtain ⟨A', c', hv, hk1, hk2, hk3, hk4⟩ := Lies.of_own hown1
  simp only [Value.slice.injEq] at hv
  obtain ⟨rfl, hzz, rfl⟩ := hv
  clear hzz hk1
  have SE4 : Sealing w1 A n g cap xs w1.heap.size := ⟨hk4, (Hl.out.below hb1).le hb1.size, Nat.le_refl _⟩
  have hT4 := hb1
  have HS : Hid (n + 4 = (sealB xs).length) := by show _ = _; rw [sealB_length, ← Hn.out]
  have hk3' : cap ≤ 9223372036854775807 := by unfold maxLen at hk3; exact hk3
  have hcn : ¬ cap = n := by omega
  generalize hR : w1.heap.size = R at SE4
  clear hk4 hb1 hown1 hR
  go_wp2_with fail
  refine (holds_yes _ _ _ xs _ R SE4.row SE4.le HS.out hk2 hk3').mono ?_
  rintro e w5 ⟨rfl, hb5⟩
  have SE5 := SE4.below hb5
  have hT5 := below_seq hT4 hb5
  clear SE4 hT4 hb5
  go_wp2_with fail
  refine (same_any _ _ _ _ _ _ xs xs _ R Hn.out Hn.out (Sealing.head SE5 Hn.out) SE5.arg).mono ?_
  rintro e w' ⟨rfl, rfl⟩
  rw [beq_self_eq_true]
  go_wp2_with fail
  refine (rget_any (four (crcOf xs)) _ _ _ _ R (four_length _).symm (by omega) (Sealing.foot SE5 Hn.out)).mono ?_
  rintro e w6 ⟨rfl, k6, rfl⟩
  rw [four_get]
  have SE6 := SE5.drewN k6
  have hT6 := below_drewN' hT5 k6
  generalize w5.drewN k6 = w6 at *
  clear SE5 hT5
  go_wp2_with fail
  refine (of_any _ _ _ xs _ R SE6.arg Hn.out (by omega)).mono ?_
  rintro e w' ⟨rfl, rfl⟩
  have hnv := nv_bd (crcOf xs)
  go_wp2_with fail
  refine (holds_any _ _ _ xs _ R SE6.arg SE6.le Hn.out (by omega) (by omega)).mono ?_
  rintro e w7 ⟨rfl, hb7⟩
  rw [Hw.out]
  have hT7 := below_seq hT6 hb7
  clear SE6 hT6 hb7
  go_wp2_with fail
  refine (works02_any w7).mono ?_
  rintro e w8 ⟨rfl, hb8⟩
  go_wp2_with fail
  go_ret
  exact ⟨rfl, below_seq hT7 hb8⟩

theorem holds_law (A : Option Addr) (n c : Nat) (xs : List UInt8) (w : World) (hn : n = xs.length) (hc : n ≤ c) (hm : c ≤ maxLen) (hl : Lies w w.heap.size A xs) :
    Calls Try.prog 5 #[.slice A n c] w fun e w' => e = .returned (.bool true) ∧ Below w.heap.size w w' := by
  by_cases h1 : 300 < n
  · have hm' : c ≤ 9223372036854775807 := by unfold maxLen at hm; exact hm
    clear hn
    go_enter Try.func5, Try.ntmps5
    go_wp2_with fail
    refine (works02_any w).mono ?_
    rintro e w1 ⟨rfl, hb⟩
    go_wp2_with fail
    go_ret
    exact ⟨rfl, hb⟩
  · by_cases h4 : n < 4
    · exact holds_few A n c xs w hn hc hm hl h4
    · exact holds_long' A n c xs w hn hc hm hl (by omega) (by omega)
end Go.Proofs.Ytnmlkkjodcpbhaa
