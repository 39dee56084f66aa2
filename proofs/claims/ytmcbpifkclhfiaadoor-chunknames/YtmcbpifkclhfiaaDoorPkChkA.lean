/-
  Layer 13: the contracts of Count, Part, Check, of bytes.Clone, of Sector; the reference's Check.
-/
import Derived.Test.YtmcbpifkclhfiaaDoorPkChkM
import Derived.Test.YtmcbpifkclhfiaaDoorPkWholeN
import Derived.Test.YtmcbpifkclhfiaaDoorPkStoreV
namespace Go.Proofs.YtmcbpifkclhfiaaDoor
open Go.RowKit
set_option linter.unusedVariables false

theorem countK_quo {s : Int} (h : 1 ≤ s) : (s - 1).tdiv 256 + 1 = ((countK s.toNat : Nat) : Int) := by
  obtain ⟨n, rfl⟩ : ∃ n : Nat, s = n := ⟨s.toNat, by omega⟩
  rw [Int.tdiv_eq_ediv_of_nonneg (by omega)]
  unfold countK
  simp only [Int.toNat_natCast]
  omega
set_option maxRecDepth 100000 in
theorem kcount_any (s : Int) (w : World) (h1 : -9223372036854775808 ≤ s) (h2 : s ≤ 9223372036854775807) : Calls Tryd.prog 11 #[.int .i64 s] w fun e w' => e = .returned (.int .i64 ((countK s.toNat : Nat) : Int)) ∧ w = w' := by
  by_cases h : s < 1
  · have e0 : countK s.toNat = 0 := by unfold countK; omega
    rw [e0]
    clear e0
    go_enter Tryd.func11, Tryd.ntmps11
    go_wp2
    go_ret
    exact ⟨rfl, rfl⟩
  · have e0 := countK_quo (s := s) (by omega)
    rw [← e0]
    clear e0
    have hd : (s - 1).tdiv 256 = (s - 1) / 256 := Int.tdiv_eq_ediv_of_nonneg (by omega)
    rw [hd]
    go_enter Tryd.func11, Tryd.ntmps11
    go_wp2
    go_ret
    exact ⟨rfl, rfl⟩

/-- How long chunk i of s bytes is. -/
def partI (s i : Int) : Int := if i < 0 then 0 else (partK s.toNat i.toNat : Nat)
set_option maxRecDepth 100000 in
theorem kpart_any (s i : Int) (w : World) (h1 : -9223372036854775808 ≤ s) (h2 : s ≤ 9223372036854775807) (h3 : -9223372036854775808 ≤ i) (h4 : i ≤ 9223372036854775807) : Calls Tryd.prog 13 #[.int .i64 s, .int .i64 i] w fun e w' => e = .returned (.int .i64 (partI s i)) ∧ w = w' := by
  by_cases hi : i < 0
  · have e0 : partI s i = 0 := by unfold partI; rw [if_pos hi]
    rw [e0]
    clear e0
    go_enter Tryd.func13, Tryd.ntmps13
    go_wp2_with fail
    go_ret
    exact ⟨rfl, rfl⟩
  · have e0 : partI s i = (partK s.toNat i.toNat : Nat) := by unfold partI; rw [if_neg hi]
    rw [e0]
    clear e0
    by_cases hc : i.toNat < countK s.toNat
    · have hlt := countK_lt.1 hc
      have Hc : Hid (¬ ((countK s.toNat : Nat) : Int) ≤ i) := by show ¬ _; omega
      have H0 : Hid (0 < s) := by show 0 < s; omega
      have Hi : Hid (i * 256 < s) := by show _ < _; omega
      have Hp : Hid ((partK s.toNat i.toNat : Nat) = min (s - i * 256) 256) := by show _ = _; unfold partK; omega
      rw [Hp.out]
      clear hlt hc Hp
      go_enter Tryd.func13, Tryd.ntmps13
      go_wp2_with fail
      refine (kcount_any s w h1 h2).mono ?_
      rintro e w1 ⟨rfl, rfl⟩
      have hc' := Hc.out
      generalize ((countK s.toNat : Nat) : Int) = q at *
      have hi' := Hi.out
      have h0 := H0.out
      go_wp2_with fail
      all_goals
        go_ret
        refine ⟨?_, rfl⟩
        first
          | (rw [Int.min_eq_left (by assumption)]; rfl)
          | (rw [Int.min_eq_right (by omega)]; rfl)
    · have Hc : Hid (((countK s.toNat : Nat) : Int) ≤ i) := by show _ ≤ _; omega
      rw [partK_zero hc]
      go_enter Tryd.func13, Tryd.ntmps13
      go_wp2_with fail
      refine (kcount_any s w h1 h2).mono ?_
      rintro e w1 ⟨rfl, rfl⟩
      have hc' := Hc.out
      generalize ((countK s.toNat : Nat) : Int) = q at *
      go_wp2_with fail
      go_ret
      exact ⟨rfl, rfl⟩

/-- What Check says of so many bytes. -/
def checkK (n : Nat) : Int := if n = 0 then 1 else if 2048 < n then 15 else 0
set_option maxRecDepth 100000 in
theorem kcheck_any (A : Option Addr) (n c : Nat) (w : World) (hn : n ≤ 9223372036854775807) : Calls Tryd.prog 9 #[.slice A n c] w fun e w' => e = .returned (.int .i64 (checkK n)) ∧ w = w' := by
  by_cases h0 : n = 0
  · subst h0
    go_enter Tryd.func9, Tryd.ntmps9
    go_wp2
    go_ret
    exact ⟨rfl, rfl⟩
  · by_cases h1 : 2048 < n
    · rw [show checkK n = 15 by unfold checkK; rw [if_neg h0, if_pos h1]]
      go_enter Tryd.func9, Tryd.ntmps9
      go_wp2
      go_ret
      exact ⟨rfl, rfl⟩
    · rw [show checkK n = 0 by unfold checkK; rw [if_neg h0, if_neg h1]]
      go_enter Tryd.func9, Tryd.ntmps9
      go_wp2
      go_ret
      exact ⟨rfl, rfl⟩
set_option maxRecDepth 100000 in
theorem rcheck_any (A : Option Addr) (n c : Nat) (w : World) (hn : n ≤ 9223372036854775807) : Calls Tryd.prog 10 #[.slice A n c] w fun e w' => e = .returned (.int .i64 (checkK n)) ∧ w = w' := by
  by_cases h0 : n = 0
  · subst h0
    go_enter Tryd.func10, Tryd.ntmps10
    go_wp2
    go_ret
    exact ⟨rfl, rfl⟩
  · by_cases h1 : 2048 < n
    · rw [show checkK n = 15 by unfold checkK; rw [if_neg h0, if_pos h1]]
      go_enter Tryd.func10, Tryd.ntmps10
      go_wp2
      go_ret
      exact ⟨rfl, rfl⟩
    · rw [show checkK n = 0 by unfold checkK; rw [if_neg h0, if_neg h1]]
      go_enter Tryd.func10, Tryd.ntmps10
      go_wp2
      go_ret
      exact ⟨rfl, rfl⟩

set_option maxRecDepth 100000 in
set_option maxHeartbeats 1000000 in
/-- bytes.Clone: a row of the call's own; of nil it makes nil. -/
theorem kclone_any (A : Option Addr) (n c : Nat) (xs : List UInt8) (w : World) (B : Nat) (h : Lies w B A xs) (hB : B ≤ w.heap.size) (hn : n = xs.length) (hm : n ≤ 1000000) :
    Calls Tryd.prog 24 #[.slice A n c] w fun e w' => ∃ A' c', e = .returned (.slice A' n c') ∧ w'.ownsRow w.heap.size 5 1 (.slice A' n c') n (cells xs) ∧ Below w.heap.size w w' := by
  obtain ⟨i0, hi, hz0, hz1, hz2⟩ := info_parts Tryd.info5
  have Hn := Lib.hid hn
  have hq := fun W => eql_slice_nil (P := Tryd.prog) W A n c Tryd.underlying22
  have hown : (w.alloc (.cells #[] 5)).ownsRow w.heap.size 5 1 (.slice (some ⟨w.heap.size, 0, none⟩) 0 0) 0 (cells []) := World.ownsRow_lit w #[] 0 (Nat.le_refl _) (by unfold maxLen; omega) rfl
  have hl1 := h.alloc hB (.cells #[] 5)
  have hb1 : Below w.heap.size w (w.alloc (.cells #[] 5)) := (Below.refl _ _).alloc (Nat.le_refl _) _
  have hs1 := hb1.size
  clear hn
  cases A with
  | none =>
    have hx : xs = [] := by
      by_cases hx : xs = []
      · exact hx
      · obtain ⟨_, _, e, _⟩ := h hx
        cases e
    subst hx
    obtain rfl : n = 0 := Hn.out
    clear hl1 h
    go_enter Tryd.func24, Tryd.ntmps24
    go_wp2_with fail
    go_ret
    exact ⟨none, 0, rfl, World.ownsRow_nil _ _ _ _, Below.refl _ _⟩
  | some a =>
    clear h
    go_enter Tryd.func24, Tryd.ntmps24
    go_wp2_with (at_builtin; refine wpList_append_lies rfl _ _ 22 rfl w.heap.size i0 Tryd.underlying22 hi hz0 hz1 hz2 _ 0 [] xs rfl hown B _ _ _ rfl hl1 Hn.out (by omega) hs1 ?_)
    intro v' w2 hown2 hg2
    obtain ⟨A', c', rfl, _, _⟩ := own_slice hown2
    go_wp2_with fail
    go_ret
    exact ⟨A', c', rfl, hown2, hb1.grown hg2 hs1 (own_ge hown)⟩

set_option maxRecDepth 100000 in
set_option maxHeartbeats 400000 in
theorem ksector_any (A : Option Addr) (n c : Nat) (xs : List UInt8) (w : World) (B : Nat) (h : Lies w B A xs) (hn : n = xs.length) (hB : B ≤ w.heap.size) :
    Calls Tryd.prog 21 #[.slice A n c] w (RetSec w (wholeB xs)) := by
  have Hn := Lib.hid hn
  have HB := Lib.hid hB
  have H := Lib.hid h
  clear hn hB h
  go_enter Tryd.func21, Tryd.ntmps21
  go_wp2_with (with_reducible refine wpList_alloc_row rfl 42 rfl sec0 Tryd.zero35 ?_)
  intro w1 hr1 hb1 hs1
  go_wp2_with fail
  refine (whole_any A n c xs w1 B (H.out.below (hb1.mono HB.out)) Hn.out (by have := HB.out; omega)).mono ?_
  rintro e w2 ⟨rfl, hb2⟩
  have hr2 : Row w2 w.heap.size 42 sec0 := hr1.below (hb2.mono (by omega))
  have hb3 : Below w.heap.size w w2 := hb1.trans (hb2.mono (by omega))
  have Hsz3 : Hid ((Tryd.prog.info? 42).map (·.size) = some ((cells (wholeB xs)).toArray).size) := by show _ = _; rw [Tryd.size35]; simp only [List.size_toArray, cells_length, wholeB_length]
  have Hold : Hid (((cells sec0).toArray).size = ((cells (wholeB xs)).toArray).size) := by show _ = _; simp only [List.size_toArray, cells_length, wholeB_length, sec0_length]
  go_wp2_with ((with_reducible refine at_store 42 ?_); refine wpList_store_row rfl 42 _ _ rfl w.heap.size _ rfl rfl 42 _ hr2 Hsz3.out Hold.out (cells_oneCell _) ?_)
  refine bodyPost_ret (results_cell_row (fn := Tryd.f21) rfl _ _ w.heap.size 42 _ (0, 0) _ rfl (hr2.set (wholeB xs)) Tryd.underlying42 rfl Hsz3.out) rfl ⟨rfl, below_setRow hb3 (Nat.le_refl _) _⟩
end Go.Proofs.YtmcbpifkclhfiaaDoor
