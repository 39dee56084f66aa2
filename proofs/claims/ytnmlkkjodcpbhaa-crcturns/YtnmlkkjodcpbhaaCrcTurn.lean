/-
  The walk of the law CrcTurns.
-/
import Derived.Test.YtnmlkkjodcpbhaaCrcWorks
import Derived.Test.YtnmlkkjodcpbhaaCrcE
import Derived.Lib.SmallJoins
namespace Go.Proofs.Ytnmlkkjodcpbhaa
open Go.RowKit
set_option linter.unusedVariables false

theorem test_eq (M k : Nat) (hM : M < 4294967296) : (bits .and .u32 ((M : Int) / 2 ^ k) 1 == 1) = M.testBit k := by
  have e : ((M : Int) / 2 ^ k) = ((M / 2 ^ k : Nat) : Int) := by rw [Int.natCast_ediv, Int.natCast_pow]; rfl
  have hle : M / 2 ^ k ≤ M := Nat.div_le_self _ _
  have := u32_and_nat (M / 2 ^ k) 1 (by omega) (by omega)
  rw [Int.ofNat_one] at this
  rw [e, this, nat_mask1, Nat.testBit_eq_decide_div_mod_eq]
  rcases Nat.mod_two_eq_zero_or_one (M / 2 ^ k) with h | h <;> simp [h]

theorem turn_byte (x : UInt8) (q : Nat) (hq : q < 8) : bits .xor .u8 (x.toNat : Int) (2 ^ q % 256) = ((x ^^^ UInt8.ofNat (2 ^ q)).toNat : Int) := by
  have hx := x.toNat_lt
  have e : ((2 : Int) ^ q % 256) = ((2 ^ q % 256 : Nat) : Int) := by rw [Int.natCast_emod, Int.natCast_pow]; rfl
  rw [e, u8_xor_nat _ _ (by omega) (by omega), UInt8.toNat_xor, toNat_ofNat]

theorem turn_cells {s : List UInt8} {P M k : Nat} {x : UInt8} (hb : M.testBit k = true) (hx : (turnK s P M k)[(P + k) / 8]? = some x) :
    cells (turnK s P M (k + 1)) = (cells (turnK s P M k)).set ((P + k) / 8) (.int .u8 ((x ^^^ UInt8.ofNat (2 ^ ((P + k) % 8))).toNat : Int)) := by
  have e : turnK s P M (k + 1) = turn1 (turnK s P M k) (P + k) := by
    show (if M.testBit k then _ else _) = _
    rw [if_pos hb]
  rw [e, turn1, List.getD_eq_getElem?_getD, hx]
  unfold cells
  rw [List.map_set]
  rfl

theorem turns_easy (A : Option Addr) (n c N M : Nat) (w : World) (h : 300 < n ∨ M = 0) (hM : M < 4294967296) (hn : n ≤ c) (hm : c ≤ 9223372036854775807) :
    Calls Try.prog 6 #[.slice A n c, .int .u16 (N : Int), .int .u32 (M : Int)] w fun e w' => e = .returned (.bool true) ∧ Below w.heap.size w w' := by
  by_cases h1 : 300 < n
  · go_enter Try.func6, Try.ntmps6
    go_wp2_with fail
    refine (works02_any w).mono ?_
    rintro e w1 ⟨rfl, hb⟩
    go_wp2_with fail
    go_ret
    exact ⟨rfl, hb⟩
  · obtain rfl : M = 0 := by omega
    go_enter Try.func6, Try.ntmps6
    go_wp2_with fail
    refine (works02_any w).mono ?_
    rintro e w1 ⟨rfl, hb⟩
    go_wp2_with fail
    go_ret
    exact ⟨rfl, hb⟩

set_option maxHeartbeats 1000000 in
theorem turns_any (A : Option Addr) (n c N M : Nat) (xs : List UInt8) (w : World) (hN : N < 65536) (hM : M < 4294967296) (h0 : M ≠ 0) (h3 : n ≤ 300) (hn : n = xs.length) (hc : n ≤ c) (hm : c ≤ maxLen) (hl : Lies w w.heap.size A xs) :
    Calls Try.prog 6 #[.slice A n c, .int .u16 (N : Int), .int .u32 (M : Int)] w fun e w' => e = .returned (.bool true) ∧ Below w.heap.size w w' := by
  have hm' : c ≤ 9223372036854775807 := by unfold maxLen at hm; exact hm
  have Hn := Lib.hid hn
  have hne : ((M : Int) == 0) = false := by rw [beq_eq_false_iff_ne]; omega
  have H0 := Lib.hid h0
  have hd3 : decide (300 < (n : Int)) = false := by simp; omega
  have hd4 : decide ((n : Int) + 4 < 4) = false := decide_eq_false (by omega)
  clear hn h0
  go_enter Try.func6, Try.ntmps6
  go_wp2_with fail
  refine (sealed_own _ _ _ xs _ _ hl (Nat.le_refl _) Hn.out (by omega)).mono ?_
  rintro e w1 ⟨v1, rfl, hown1, hb1⟩
  rw [sealB_length, ← Hn.out] at hown1
  obtain ⟨g, cap, rfl⟩ := Joins.ownsRow_form hown1 (by omega)
  go_wp2_with fail
  obtain ⟨P, hP, hP8⟩ : ∃ P : Nat, (N : Int) % (8 * ((n : Int) + 4) - 31) = (P : Int) ∧ P ≤ 8 * n := ⟨N % (8 * n + 1), by rw [show (8 * ((n : Int) + 4) - 31) = ((8 * n + 1 : Nat) : Int) by omega]; exact (Int.natCast_emod N (8 * n + 1)).symm, by have := Nat.mod_lt N (show 0 < 8 * n + 1 by omega); omega⟩
  rw [hP]
  clear hP
  go_loopw [9] (fun i W => ∃ k : Nat, k ≤ 32 ∧ i = .int .i64 k ∧ W.ownsRow w.heap.size 5 1 (.slice (some ⟨g, 0, none⟩) (n + 4) cap) (n + 4) (cells (turnK (sealB xs) P M k)) ∧ Below w.heap.size w W) (fun i _ => 32 - (intOf i).toNat)
  case atStart => exact ⟨0, Nat.zero_le _, rfl, hown1, hb1⟩
  case round =>
    obtain ⟨k, hk, rfl, hown, hb⟩ := hrel
    clear hown1 hb1
    by_cases hlt : k < 32
    · have Hlen := Lib.hid (turnK_length (sealB xs) P M k)
      have ht := test_eq M k hM
      by_cases hbit : M.testBit k = true
      · rw [hbit] at ht
        have hq : (P + k) / 8 < n + 4 := by omega
        obtain ⟨x, hx⟩ : ∃ x, (turnK (sealB xs) P M k)[(P + k) / 8]? = some x := ⟨_, List.getElem?_eq_getElem (by rw [Hlen.out, sealB_length, ← Hn.out]; exact hq)⟩
        have hcell : wr.cell? ⟨g, (P + k) / 8, none⟩ = some (.int .u8 (x.toNat : Int)) := (hown.cellAt _ (by omega)).trans (cells_get hx)
        have hfz := hown.frozenAt ((P + k) / 8)
        have Hx := Lib.hid hx
        have Hb := Lib.hid hbit
        have hxl := x.toNat_lt
        clear hx hbit
        have R := hown.stored ((P + k) / 8) (.int .u8 ((x ^^^ UInt8.ofNat (2 ^ ((P + k) % 8))).toNat : Int))
        have R2 := hb.setCell (p := ⟨g, (P + k) / 8, none⟩) (own_ge hown g rfl) (.int .u8 ((x ^^^ UInt8.ofNat (2 ^ ((P + k) % 8))).toNat : Int))
        have Hy := Lib.hid (turn_byte x ((P + k) % 8) (by omega))
        have Ht := Lib.hid (turn_cells Hb.out Hx.out)
        generalize x ^^^ UInt8.ofNat (2 ^ ((P + k) % 8)) = y at *
        have HR := Lib.hid R
        have HR2 := Lib.hid R2
        clear R R2
        go_wp2
        go_roundw
        case rel =>
          refine ⟨k + 1, by omega, by go_num, ?_, ?_⟩
          · rw [Hy.out, Ht.out]
            exact HR.out.1
          · rw [Hy.out]
            exact HR2.out
        case measure => simp [intOf]; omega
      · have hbit' : M.testBit k = false := by simpa using hbit
        rw [hbit'] at ht
        have Hb := Lib.hid hbit'
        clear hbit hbit'
        go_wp2
        go_roundw
        case rel =>
          refine ⟨k + 1, by omega, by go_num, ?_, hb⟩
          unfold turnK
          rw [Hb.out]
          exact hown
        case measure => simp [intOf]; omega
    · obtain rfl : k = 32 := by omega
      obtain ⟨A', c', hv, hk1, hk2, hk3, hk4⟩ := Lies.of_own hown
      simp only [Value.slice.injEq] at hv
      obtain ⟨rfl, hzz, rfl⟩ := hv
      clear hzz
      have Hk := Lib.hid hk1
      have hold := holds_any _ (n + 4) cap _ wr _ hk4 (Nat.le_refl _) Hk.out hk2 (by unfold maxLen at hk3; exact hk3)
      rw [turned_told (holdsB_seal xs) (by rw [sealB_length, ← Hn.out]; omega) (by omega) H0.out] at hold
      have Hh := Lib.hid hold
      clear hold hk1 hown hk4
      go_wp2_with fail
      with_reducible refine Hh.out.mono ?_
      rintro e w2 ⟨rfl, hb2⟩
      have hb3 := below_seq hb hb2
      go_wp2_with fail
      refine (works02_any w2).mono ?_
      rintro e w4 ⟨rfl, hb4⟩
      go_wp2_with fail
      go_ret
      exact ⟨rfl, below_seq hb3 hb4⟩
end Go.Proofs.Ytnmlkkjodcpbhaa
