/-
  Layer 12: the contracts of word.Put as a row of the call's own, of cut and of encoded.
-/
import Derived.Test.YtiglffkbaddefaaPkTabQ
import Derived.Test.YtiglffkbaddefaaPkCrcFour
import Derived.Test.YtiglffkbaddefaaPkTabH
namespace Go.Proofs.Ytiglffkbaddefaa
open Go.RowKit
set_option linter.unusedVariables false
set_option linter.unusedSimpArgs false

set_option maxRecDepth 100000 in
set_option maxHeartbeats 1000000 in
theorem put_own (N k : Nat) (w : World) (h1 : 0 < k) (hk : k ≤ 65536) (hN : N < 18446744073709551616) :
    Calls Try.prog 59 #[.int .u64 (N : Int), .int .i64 (k : Int)] w (RetOwn w (putB N k)) := by
  obtain ⟨i0, hi, hz0, hz1, hz2⟩ := info_parts Try.info5
  have hm : (0 : Int) < (k : Int) := by omega
  go_enter Try.func59, Try.ntmps59
  go_wp2_with (at_make; refine wpList_make_full _ rfl _ _ 71 rfl w.heap.size 5 i0 (.int .u8 0) 1 Try.underlying71 hi hz0 hz1 _ _ _ _ k rfl rfl (by omega) (by omega) (by rw [hz2]; omega) (by unfold maxLen; omega) (Nat.le_refl _) ?_)
  intro w1 hown hgrow
  have hb : Below w.heap.size w w1 := (Below.refl _ _).grown hgrow (Nat.le_refl _) (by simp)
  rw [fill_made] at hown
  go_wp2
  go_loopw [0, 12] (fun n i wr => ∃ j : Nat, j ≤ k ∧ i = .int .i64 j ∧ n = .int .u64 ((N / 256 ^ j : Nat) : Int) ∧ wr.ownsRow w.heap.size 5 1 (.slice (some ⟨w.heap.size, 0, none⟩) k k) k (cells (fill (putB N j) k)) ∧ Below w.heap.size w wr)
    (fun _ i _ => k - (intOf i).toNat)
  case atStart => exact ⟨0, Nat.zero_le _, rfl, by simp, hown, hb⟩
  case round =>
    obtain ⟨j, hj, rfl, rfl, hown', hb'⟩ := hrel
    by_cases hlt : j < k
    · have hcell : ∃ v, wr.cell? ⟨w.heap.size, j, none⟩ = some v := by
        rw [hown'.cellAt j (by omega)]
        exact ⟨_, List.getElem?_eq_getElem (by rw [cells_length, fill_length (by rw [putB_length]; omega)]; exact hlt)⟩
      obtain ⟨v, hc⟩ := hcell
      have hf := hown'.frozenAt j
      have R := hown'.stored j (.int .u8 ((UInt8.ofNat (N / 256 ^ j)).toNat : Int))
      have hset := fill_set (k := k) (xs := putB N j) (UInt8.ofNat (N / 256 ^ j)) (by rw [putB_length]; exact hlt)
      rw [putB_length, ← putB_snoc] at hset
      rw [hset] at R
      have R2 := hb'.setCell (p := ⟨w.heap.size, j, none⟩) (Nat.le_refl _) (.int .u8 ((UInt8.ofNat (N / 256 ^ j)).toNat : Int))
      have hq : N / 256 ^ (j + 1) = N / 256 ^ j / 256 := by rw [Nat.div_div_eq_div_mul, Nat.pow_succ]
      have Hq := Lib.hid hq
      have Hby := Lib.hid (byte_of (N / 256 ^ j))
      have hle : N / 256 ^ j ≤ N := Nat.div_le_self _ _
      generalize N / 256 ^ j = M at *
      clear hq hset
      go_wp2
      go_roundw
      case rel => exact ⟨j + 1, by omega, by go_num, by rw [Hq.out, Int.natCast_ediv]; rfl, by rw [Hby.out]; exact R.1, by rw [Hby.out]; exact R2⟩
      case measure => simp [intOf]; omega
    · have hjk : j = k := by omega
      subst hjk
      go_wp2
      go_ret
      have e : fill (putB N j) j = putB N j := by
        have := fill_full (xs := putB N j)
        rwa [putB_length] at this
      rw [e] at hown'
      exact ⟨_, rfl, by rw [putB_length]; exact hown', hb'⟩

set_option maxRecDepth 100000 in
theorem scut_any (w : World) (g n c i : Nat) (h : i * 42 + 42 ≤ c) (hn : n ≤ c) (hi : i ≤ 100) (hc : c ≤ 1000) :
    Calls Try.prog 48 #[.slice (some ⟨g, 0, none⟩) n c, .int .i64 (i : Int)] w fun e w' => e = .returned (.slice (some ⟨g, i * 42, none⟩) 42 42) ∧ w' = w := by
  have h1 : (i : Int) * 42 + 42 ≤ (c : Int) := by omega
  have h2 : (0 : Int) ≤ (i : Int) * 42 := by omega
  have h3 : i * 42 + 42 - i * 42 = 42 := by omega
  go_enter Try.func48, Try.ntmps48
  go_wp2_with fail
  go_ret
  exact ⟨by show Ending.returned (.slice _ _ _) = _; rw [h3], rfl⟩

/-- An entry's bytes, but for the noughts behind them. -/
def encB (e : Ent) : List UInt8 := putB e.count.toNat 6 ++ putB e.slot.toNat 2 ++ e.adr.1
theorem encB_length (e : Ent) : (encB e).length = 40 := by simp [encB, putB_length, e.adr.2]
theorem lies_adr {w : World} {g : Nat} {t : TypeId} {e : Ent} (h : RowV w g t e.cs) : Lies w w.heap.size (some ⟨g, 0, none⟩) e.adr.1 := by
  have h1 := adr_of (row_range h)
  exact fun hx => ⟨g, 0, rfl, h.lt, fun i x hi => h1 i _ (cells_get hi)⟩
theorem RowV.ent_count {w : World} {g : Nat} {t : TypeId} {e : Ent} (h : RowV w g t e.cs) : w.cell? ⟨g, 33, none⟩ = some (.int .i64 e.count) := h.cell e.get_count
theorem RowV.ent_slot {w : World} {g : Nat} {t : TypeId} {e : Ent} (h : RowV w g t e.cs) : w.cell? ⟨g, 32, none⟩ = some (.int .i64 e.slot) := h.cell e.get_slot

set_option maxRecDepth 100000 in
set_option maxHeartbeats 1000000 in
theorem senc_any (w : World) (e : Ent) (he : e.fits) :
    Calls Try.prog 49 #[.agg e.cs.toArray] w (RetOwn w (encB e)) := by
  obtain ⟨i0, hi, hz0, hz1, hz2⟩ := info_parts Try.info5
  obtain ⟨h1, h2, h3, h4⟩ := he
  obtain ⟨N, hN⟩ : ∃ N : Nat, e.count = (N : Int) := ⟨e.count.toNat, by omega⟩
  obtain ⟨S, hS⟩ : ∃ S : Nat, e.slot = (S : Int) := ⟨e.slot.toNat, by omega⟩
  have He : Hid (encB e = putB N 6 ++ putB S 2 ++ e.adr.1) := by show _ = _; rw [encB, hN, hS]; rfl
  have Hl := Lib.hid e.adr.2
  have hN2 : N < 281474976710656 := by omega
  have hS2 : S < 65536 := by omega
  have HN := Lib.hid hN
  have HS := Lib.hid hS
  have hsl : ∀ W g, (Instr.sliceAt 30 (.pointer (some ⟨g, 0, none⟩)) none none none).run Try.prog W = .ok (.slice (some ⟨g, 0, none⟩) 32 32) W := fun W g => run_slice_arr_all Try.underlying30 Try.size5 g
  clear h1 h2 h3 h4 hN hS
  go_enter Try.func49, Try.ntmps49
  go_wp2_with ((with_reducible refine at_box 32 ?_); refine wpList_box_rowV rfl 32 _ rfl e.cs rfl ?_)
  intro w1 hr1 hb1 hs1
  obtain ⟨M, hM⟩ : ∃ M, w.heap.size = M := ⟨_, rfl⟩
  rw [hM] at hr1 hb1 hs1
  have c0 := hr1.ent_count
  rw [HN.out] at c0
  go_wp2_with fail
  refine (put_own N 6 w1 (by omega) (by omega) (by omega)).mono ?_
  rintro r w2 ⟨v2, rfl, ho2, hb2⟩
  have hr2 := hr1.below (by omega) hb2
  have hB2 : Below M w w2 := hb1.trans (hb2.mono (by omega))
  have hs2 : M + 1 ≤ w2.heap.size := by have := hb2.size; omega
  rw [hs1, putB_length] at ho2
  have c1 := hr2.ent_slot
  rw [HS.out] at c1
  clear c0 hr1 hb1 hb2 hs1
  go_wp2_with fail
  refine (put_own S 2 w2 (by omega) (by omega) (by omega)).mono ?_
  rintro r w3 ⟨v3, rfl, ho3, hb3⟩
  obtain ⟨A3, k3, rfl, h31, h32, h33, hl3⟩ := Lies.of_own ho3
  have hr3 := hr2.below (by omega) hb3
  have hB3 : Below M w w3 := hB2.trans (hb3.mono (by omega))
  have hs3 : M + 1 ≤ w3.heap.size := by have := hb3.size; omega
  have ho23 := own_below ho2 hb3
  rw [putB_length]
  clear c1 hr2 hb3 ho2 hB2 hs2 ho3 h31 h32 h33
  go_wp2_with (at_builtin; refine wpList_append_lies rfl _ _ 71 rfl (M + 1) i0 Try.underlying71 hi hz0 hz1 hz2 _ 6 (putB N 6) (putB S 2) rfl ho23 w3.heap.size _ _ _ rfl hl3 (by rw [putB_length]) (by omega) hs3 ?_)
  intro v4 w4 ho4 hg4
  have hr4 := hr3.keep hg4 (fun k => by have := own_ge ho23 _ k; omega)
  have hB4 : Below M w w4 := hB3.grown hg4 (by omega) (fun k q => by have := own_ge ho23 _ q; omega)
  have hs4 : M + 1 ≤ w4.heap.size := by have := hg4.size; omega
  have hla := lies_adr hr4
  clear hr3 hB3 hl3 ho23 hg4 hs3
  go_wp2_with (at_builtin; refine wpList_append_lies rfl _ _ 71 rfl (M + 1) i0 Try.underlying71 hi hz0 hz1 hz2 _ (6 + 2) (putB N 6 ++ putB S 2) e.adr.1 rfl ho4 w4.heap.size _ _ _ rfl hla Hl.out.symm (by omega) hs4 ?_)
  intro v5 w5 ho5 hg5
  have hB5 : Below M w w5 := hB4.grown hg5 (by omega) (fun k q => by have := own_ge ho4 _ q; omega)
  go_wp2_with fail
  go_ret
  refine ⟨v5, rfl, ?_, by rw [hM]; exact hB5⟩
  rw [encB_length, He.out, hM]
  exact own_rebase ho5 (fun k q => by have := own_ge ho5 k q; omega)
end Go.Proofs.Ytiglffkbaddefaa
