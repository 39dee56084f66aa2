/-
  The contract of the reference's Of (layer 2).
-/
import Derived.Test.YtmcnhcbibcjgnaaPkRBits
import Derived.Test.YtmcnhcbibcjgnaaPkCrcRef
import Derived.Test.YtmcnhcbibcjgnaaPkAppZ
import Derived.Lib.SmallJoins
import Derived.StillTailTactics
namespace Go.Proofs.Ytmcnhcbibcjgnaa
open Go.RowKit
set_option linter.unusedVariables false

/-- Bits with 32 noughts behind. -/
def pad32 (l : List Bool) : List Bool := l ++ List.replicate 32 false
theorem ub_zeros (l : List Bool) : ub (pad32 l) = ub l ++ noughts 32 := by
  unfold pad32 noughts
  rw [ub_append]
  congr 1
theorem ub_cells_set (l : List Bool) (i : Nat) (c : Bool) : (cells (ub l)).set i (.int .u8 ((b1 c).toNat : Int)) = cells (ub (l.set i c)) := by
  unfold cells ub
  rw [List.map_set, List.map_set]
theorem ub_get {l : List Bool} {i : Nat} (h : i < l.length) : (cells (ub l))[i]? = some (.int .u8 ((b1 (l.getD i false)).toNat : Int)) := by
  refine cells_get ?_
  unfold ub
  rw [List.getElem?_map, List.getD_eq_getElem?_getD, List.getElem?_eq_getElem h]
  rfl
theorem b1_xor (a b : Bool) : bits .xor .u8 ((b1 a).toNat : Int) ((b1 b).toNat : Int) = ((b1 (a ^^ b)).toNat : Int) := by cases a <;> cases b <;> decide
theorem sum_step (l : List Bool) (n k : Nat) (hk : k < 32) : bits .or .u32 ((sumK l n k : Nat) : Int) ((1 - ((b1 (l.getD (n + k) false)).toNat : Int)) * 2 ^ k % 4294967296) = ((sumK l n (k + 1) : Nat) : Int) := by
  have h1 := sumK_lt l n k
  have h2 : (2 : Nat) ^ k < 2 ^ 32 := Nat.pow_lt_pow_right (by omega) hk
  have e : ((1 - ((b1 (l.getD (n + k) false)).toNat : Int)) * 2 ^ k % 4294967296) = (((if l.getD (n + k) false then 0 else 2 ^ k) : Nat) : Int) := by
    have e2 : ((2 : Int) ^ k) = ((2 ^ k : Nat) : Int) := by rw [Int.natCast_pow]; rfl
    cases l.getD (n + k) false
    · show ((1 - (0 : Int)) * 2 ^ k % 4294967296) = ((2 ^ k : Nat) : Int)
      rw [e2]
      omega
    · show ((1 - (1 : Int)) * 2 ^ k % 4294967296) = ((0 : Nat) : Int)
      simp
  rw [e, u32_or_nat _ _ (by omega) (by split <;> omega)]
  congr 1
  show _ = sumK l n k + _
  cases l.getD (n + k) false
  · simp only [Bool.false_eq_true, if_false]
    rw [Nat.or_comm, nat_join k (2 ^ k) _ (Nat.mod_self _) h1, Nat.add_comm]
  · simp
theorem Row.setCell_other {w : World} {g : Nat} {t : TypeId} {xs : List UInt8} (h : Row w g t xs) {p : Addr} (hk : g ≠ p.block) (v : Value) : Row (w.setCell p v) g t xs := (heap_setCell_other w p g v hk).trans h
theorem Row.drew {w : World} {g : Nat} {t : TypeId} {xs : List UInt8} (h : Row w g t xs) : Row w.drew g t xs := h

set_option maxRecDepth 100000 in
set_option maxHeartbeats 1000000 in
theorem rof_any (A : Option Addr) (n c : Nat) (xs : List UInt8) (w : World) (B : Nat) (h : Lies w B A xs) (hB : B ≤ w.heap.size) (hn : n = xs.length) (hl : n ≤ 100000) :
    Calls Try.prog 50 #[.slice A n c] w fun e w' => e = .returned (.int .u32 (nv (crcOf xs))) ∧ Below w.heap.size w w' := by
  obtain ⟨i0, hi, hz0, hz1, hz2⟩ := info_parts Try.info5
  have Hn := Lib.hid hn
  have Hl := Lib.hid h
  clear h hn
  go_enter Try.func50, Try.ntmps50
  go_wp2_with fail
  refine (rbits_any _ _ _ xs _ B Hl.out hB Hn.out (by omega)).mono ?_
  rintro e w1 ⟨v1, rfl, hown1, hb1⟩
  rw [ub_length, bitsOf_length, ← Hn.out] at hown1
  go_wp2_with (at_builtin; refine wpList_append_zeros rfl _ _ 66 3 rfl w.heap.size i0 .i64 Try.underlying66 Try.underlying3 hi hz0 hz1 hz2 _ (8 * n) _ rfl hown1 32 rfl (by omega) (by omega) hb1.size ?_)
  intro v2 w2 hown2 hg2
  have hb2 : Below w.heap.size w w2 := hb1.grown hg2 hb1.size (own_ge hown1)
  rw [← ub_zeros] at hown2
  obtain ⟨g, cap, rfl⟩ := Joins.ownsRow_form hown2 (by omega)
  have hlen0 : (pad32 (bitsOf xs)).length = 8 * n + 32 := by unfold pad32; rw [List.length_append, bitsOf_length, Hn.out]; simp
  have Hlen0 := Lib.hid hlen0
  clear hlen0 hown1 hg2 hb1
  have hm8 : 8 * n ≤ 800000 := by omega
  generalize hM8 : 8 * n = m8 at *
  have HM8 := Lib.hid hM8
  clear hM8 hl
  go_wp2_with fail
  have hgw := own_ge hown2 g rfl
  go_loopw [4] (fun i W => ∃ k : Nat, k ≤ 32 ∧ i = .int .i64 k ∧ W.ownsRow w.heap.size 5 1 (.slice (some ⟨g, 0, none⟩) (m8 + 32) cap) (m8 + 32) (cells (ub (inv (pad32 (bitsOf xs)) k))) ∧ Below w.heap.size w W) (fun i _ => 32 - (intOf i).toNat)
  case atStart => exact ⟨0, Nat.zero_le _, rfl, hown2, hb2⟩
  case round =>
    obtain ⟨k, hk, hik, hown, hb⟩ := hrel
    subst hik
    clear hown2 hb2
    by_cases hlt : k < 32
    · have Hl1 : Hid ((inv (pad32 (bitsOf xs)) k).length = m8 + 32) := by show _ = _; rw [inv_length, Hlen0.out]
      have Hset := Lib.hid (ub_cells_set (inv (pad32 (bitsOf xs)) k) k (!(inv (pad32 (bitsOf xs)) k).getD k false))
      have hcell := (hown.cellAt k (by omega)).trans (ub_get (by rw [Hl1.out]; omega))
      have hfz := hown.frozenAt k
      have R := fun u => (hown.stored k u).1
      have R2 := fun u => hb.setCell (p := ⟨g, k, none⟩) hgw u
      have HR := Lib.hid R
      have HR2 := Lib.hid R2
      have Hinv : Hid (inv (pad32 (bitsOf xs)) (k + 1) = (inv (pad32 (bitsOf xs)) k).set k (!(inv (pad32 (bitsOf xs)) k).getD k false)) := rfl
      clear R R2 hown hb
      cases hbit : (inv (pad32 (bitsOf xs)) k).getD k false
      · rw [hbit] at hcell Hset Hinv
        have Hb := Lib.hid hbit
        clear hbit
        replace hcell : wr.cell? ⟨g, k, none⟩ = some (.int .u8 0) := hcell
        go_wp2
        go_roundw
        case rel =>
          refine ⟨k + 1, by omega, by go_num, ?_, HR2.out _⟩
          rw [Hinv.out, ← Hset.out]
          exact HR.out _
        case measure => simp [intOf]; omega
      · rw [hbit] at hcell Hset Hinv
        have Hb := Lib.hid hbit
        clear hbit
        replace hcell : wr.cell? ⟨g, k, none⟩ = some (.int .u8 1) := hcell
        go_wp2
        go_roundw
        case rel =>
          refine ⟨k + 1, by omega, by go_num, ?_, HR2.out _⟩
          rw [Hinv.out, ← Hset.out]
          exact HR.out _
        case measure => simp [intOf]; omega
    · obtain rfl : k = 32 := by omega
      have Hl1 : Hid ((inv (pad32 (bitsOf xs)) 32).length = m8 + 32) := by show _ = _; rw [inv_length, Hlen0.out]
      generalize hL1 : inv (pad32 (bitsOf xs)) 32 = l1 at *
      have HL1 := Lib.hid hL1
      clear hL1
      go_wp2_with fail
      have hown0 := hown.alloc (.cells #[.int .u8 1, .int .u8 0, .int .u8 0, .int .u8 0, .int .u8 0, .int .u8 0, .int .u8 1, .int .u8 0, .int .u8 0, .int .u8 1, .int .u8 1, .int .u8 0, .int .u8 0, .int .u8 0, .int .u8 0, .int .u8 0, .int .u8 1, .int .u8 0, .int .u8 0, .int .u8 0, .int .u8 1, .int .u8 1, .int .u8 1, .int .u8 0, .int .u8 1, .int .u8 1, .int .u8 0, .int .u8 1, .int .u8 1, .int .u8 0, .int .u8 1, .int .u8 1, .int .u8 1] 5)
      have hb0 := hb.alloc hb.size (.cells #[.int .u8 1, .int .u8 0, .int .u8 0, .int .u8 0, .int .u8 0, .int .u8 0, .int .u8 1, .int .u8 0, .int .u8 0, .int .u8 1, .int .u8 1, .int .u8 0, .int .u8 0, .int .u8 0, .int .u8 0, .int .u8 0, .int .u8 1, .int .u8 0, .int .u8 0, .int .u8 0, .int .u8 1, .int .u8 1, .int .u8 1, .int .u8 0, .int .u8 1, .int .u8 1, .int .u8 0, .int .u8 1, .int .u8 1, .int .u8 0, .int .u8 1, .int .u8 1, .int .u8 1] 5)
      have hrow0 : Row (wr.alloc (.cells #[.int .u8 1, .int .u8 0, .int .u8 0, .int .u8 0, .int .u8 0, .int .u8 0, .int .u8 1, .int .u8 0, .int .u8 0, .int .u8 1, .int .u8 1, .int .u8 0, .int .u8 0, .int .u8 0, .int .u8 0, .int .u8 0, .int .u8 1, .int .u8 0, .int .u8 0, .int .u8 0, .int .u8 1, .int .u8 1, .int .u8 1, .int .u8 0, .int .u8 1, .int .u8 1, .int .u8 0, .int .u8 1, .int .u8 1, .int .u8 0, .int .u8 1, .int .u8 1, .int .u8 1] 5)) wr.heap.size 5 (ub polyL) := heap_alloc_new wr _
      have hgq : g < wr.heap.size := (hown.lt g rfl).2
      generalize wr.heap.size = q at hgq hrow0 ⊢
      clear hown hb
      go_loopw [6] (fun t W => ∃ i : Nat, i ≤ m8 ∧ t = .int .i64 i ∧ W.ownsRow w.heap.size 5 1 (.slice (some ⟨g, 0, none⟩) (m8 + 32) cap) (m8 + 32) (cells (ub (divI l1 i))) ∧ Row W q 5 (ub polyL) ∧ Below w.heap.size w W) (fun t _ => m8 - (intOf t).toNat)
      case atStart => exact ⟨0, Nat.zero_le _, rfl, hown0, hrow0, hb0⟩
      case round =>
        obtain ⟨i, hi', hii, hown, hrow, hb⟩ := hrel
        subst hii
        clear hown0 hrow0 hb0
        by_cases hlt : i < m8
        · have Hl2 : Hid ((divI l1 i).length = m8 + 32) := by show _ = _; rw [divI_length, Hl1.out]
          have hcell := (hown.cellAt i (by omega)).trans (ub_get (by rw [Hl2.out]; omega))
          have Hdiv : Hid (divI l1 (i + 1) = if (divI l1 i).getD i false then xorAt (divI l1 i) i 33 else divI l1 i) := rfl
          cases hbit : (divI l1 i).getD i false
          · rw [hbit] at hcell Hdiv
            clear hbit
            replace hcell : wr.cell? ⟨g, i, none⟩ = some (.int .u8 0) := hcell
            go_wp2
            go_roundw
            case rel => exact ⟨i + 1, by omega, by go_num, by rw [Hdiv.out]; exact hown, hrow, hb⟩
            case measure => simp [intOf]; omega
          · rw [hbit] at hcell Hdiv
            clear hbit
            replace hcell : wr.cell? ⟨g, i, none⟩ = some (.int .u8 1) := hcell
            generalize divI l1 i = m at *
            go_wp2_with fail
            clear hcell
            go_loopw [7] (fun t W => ∃ k : Nat, k ≤ 33 ∧ t = .int .i64 k ∧ W.ownsRow w.heap.size 5 1 (.slice (some ⟨g, 0, none⟩) (m8 + 32) cap) (m8 + 32) (cells (ub (xorAt m i k))) ∧ Row W q 5 (ub polyL) ∧ Below w.heap.size w W) (fun t _ => 33 - (intOf t).toNat)
            case atStart => exact ⟨0, Nat.zero_le _, rfl, hown, hrow, hb⟩
            case round =>
              obtain ⟨k, hk, hkk, hown2, hrow2, hb2⟩ := hrel
              subst hkk
              clear hown hrow hb
              by_cases hk33 : k < 33
              · have Hl3 : Hid ((xorAt m i k).length = m8 + 32) := by show _ = _; rw [xorAt_length, Hl2.out]
                have hc1 := (hown2.cellAt (i + k) (by omega)).trans (ub_get (by rw [Hl3.out]; omega))
                have hc2 : wr.cell? ⟨q, k, none⟩ = some (.int .u8 ((b1 (polyL.getD k false)).toNat : Int)) := by
                  rw [cell_of_row wr q k _ 5 (0, 0) hrow2]
                  simpa using ub_get (l := polyL) (i := k) (by show k < 33; exact hk33)
                have hfz := hown2.frozenAt (i + k)
                have Hx := Lib.hid (b1_xor ((xorAt m i k).getD (i + k) false) (polyL.getD k false))
                have Hset := Lib.hid (ub_cells_set (xorAt m i k) (i + k) ((xorAt m i k).getD (i + k) false ^^ polyL.getD k false))
                have Hnext : Hid (xorAt m i (k + 1) = (xorAt m i k).set (i + k) ((xorAt m i k).getD (i + k) false ^^ polyL.getD k false)) := rfl
                have HR := Lib.hid (fun u => (hown2.stored (i + k) u).1)
                have HR2 := Lib.hid (fun u => hb2.setCell (p := ⟨g, i + k, none⟩) hgw u)
                have HR3 := Lib.hid (fun u => hrow2.setCell_other (p := ⟨g, i + k, none⟩) (show q ≠ g by omega) u)
                generalize (xorAt m i k).getD (i + k) false = ba at *
                generalize polyL.getD k false = bb at *
                generalize b1 ba = ya at *
                generalize b1 bb = yb at *
                have hya := ya.toNat_lt
                have hyb := yb.toNat_lt
                have q1 : (0 : Int) ≤ (i : Int) + (k : Int) := by omega
                have q2 : (i : Int) + (k : Int) < (m8 : Int) + 32 := by omega
                have q3 : (k : Int) < 33 := by omega
                have q4 : (0 : Int) ≤ (k : Int) := by omega
                clear hown2 hrow2 hb2
                have hw1 : IntKind.i64.wrap ((i : Int) + (k : Int)) = (i : Int) + (k : Int) := IntWalk.i64_in _ (by omega)
                have hw2 : ((i : Int) + (k : Int)).toNat = i + k := by omega
                go_wp2_with fail
                refine wp_region_still_tail 16 (by kernel_rfl) (by kernel_rfl) ?_
                simp only [List.take_succ_cons, List.take_zero, List.drop_succ_cons, List.drop_zero]
                iterate 16 still_step
                refine wpStill_nil ?_
                change wpList _ _ _ _ _ wr.drew
                clear hw1 hw2
                go_wp2
                go_roundw
                case rel =>
                  refine ⟨k + 1, by omega, by go_num, ?_, ?_, ?_⟩
                  · rw [Hx.out, Hnext.out, ← Hset.out]
                    exact HR.out _
                  · exact HR3.out _
                  · exact (HR2.out _).drew
                case measure => simp [intOf]; omega
              · obtain rfl : k = 33 := by omega
                go_wp2
                go_roundw
                case rel => (repeat apply Exists.intro); exact ⟨⟨i + 1, by omega, by go_num, by rw [Hdiv.out]; exact hown2, hrow2, hb2⟩, rfl⟩
                case measure => simp [intOf]; omega
        · obtain rfl : i = m8 := by omega
          have Hl2 : Hid ((divI l1 i).length = i + 32) := by show _ = _; rw [divI_length, Hl1.out]
          have Hsum : Hid (sumK (divI l1 i) i 32 = (crcOf xs).toNat) := by
            show _ = _
            rw [← HL1.out, ← HM8.out, Hn.out]
            exact ref_sum xs
          generalize divI l1 i = m at *
          clear hrow
          go_wp2
          go_loop [8, 10] (fun u t => ∃ k : Nat, k ≤ 32 ∧ t = .int .i64 k ∧ u = .int .u32 ((sumK m i k : Nat) : Int)) (fun _ t => 32 - (intOf t).toNat)
          case atStart => exact ⟨0, Nat.zero_le _, rfl, rfl⟩
          case round =>
            obtain ⟨k, hk, rfl, rfl⟩ := hrel
            have Hsl := Lib.hid (sumK_lt m i k)
            have hs31 : sumK m i k ≤ 4294967295 := by have h1 := Hsl.out; have h2 : (2 : Nat) ^ k ≤ 2 ^ 32 := Nat.pow_le_pow_right (by omega) hk; omega
            by_cases hk32 : k < 32
            · have hc1 := (hown.cellAt (i + k) (by omega)).trans (ub_get (by rw [Hl2.out]; omega))
              have Hs := Lib.hid (sum_step m i k hk32)
              have hy1 : (b1 (m.getD (i + k) false)).toNat ≤ 1 := by cases m.getD (i + k) false <;> decide
              generalize b1 (m.getD (i + k) false) = y at *
              generalize sumK m i k = S at *
              clear hown
              have hd : decide ((k : Int) < 32) = true := decide_eq_true (by omega)
              go_wp2
              go_round
              case rel => exact ⟨k + 1, by omega, by go_num, by rw [Hs.out]⟩
              case measure => simp [intOf]; omega
            · obtain rfl : k = 32 := by omega
              have hd : decide (((32 : Nat) : Int) < 32) = false := by decide
              clear hown
              go_wp2
              go_ret
              exact ⟨by rw [Hsum.out]; rfl, hb⟩
end Go.Proofs.Ytmcnhcbibcjgnaa
