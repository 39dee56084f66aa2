/-
  The contract of digest.padding.
-/
import Derived.Test.YtmcbpifkclhfiaaDoorPkRSame
import Derived.Test.YtmcbpifkclhfiaaDoorPkSha
import Derived.Test.YtmcbpifkclhfiaaDoorPkArrV
import Derived.Lib.SmallJoins
namespace Go.Proofs.YtmcbpifkclhfiaaDoor
open Go.RowKit
set_option linter.unusedVariables false

/-- What is added to a message of L bytes. -/
def padOf (L : Nat) : List UInt8 := 128 :: (List.replicate ((119 - L % 64) % 64) 0 ++ be8 (8 * L))
theorem padB64_eq (m : List UInt8) : padB64 m = m ++ padOf m.length := rfl
theorem padOf_length (L : Nat) : (padOf L).length = (119 - L % 64) % 64 + 9 := by simp [padOf, be8_length]
theorem padOf_mod (L : Nat) : (L + (padOf L).length) % 64 = 0 := by rw [padOf_length]; omega

/-- The last i bytes of the padding laid. -/
def padI (L i : Nat) : List UInt8 := 128 :: List.replicate ((119 - L % 64) % 64 + (8 - i)) 0 ++ (putB (8 * L) i).reverse
theorem padI_length {L i : Nat} (h : i ≤ 8) : (padI L i).length = (119 - L % 64) % 64 + 9 := by simp [padI, putB_length]; omega
theorem padI_all (L : Nat) : padI L 8 = padOf L := by
  show 128 :: List.replicate ((119 - L % 64) % 64 + 0) 0 ++ be8 (8 * L) = _
  rw [Nat.add_zero]
  rfl
theorem padI_zero (L : Nat) : padI L 0 = 128 :: List.replicate ((119 - L % 64) % 64 + 8) 0 := by simp [padI, putB]
theorem padI_succ {L i : Nat} (h : i < 8) : (cells (padI L i)).set ((119 - L % 64) % 64 + 8 - i) (.int .u8 ((UInt8.ofNat (8 * L / 256 ^ i)).toNat : Int)) = cells (padI L (i + 1)) := by
  generalize hz : (119 - L % 64) % 64 = z
  have e : cells (padI L (i + 1)) = (cells (padI L i)).set (z + 8 - i) (.int .u8 ((UInt8.ofNat (8 * L / 256 ^ i)).toNat : Int)) := by
    unfold cells
    rw [← List.map_set (f := fun x : UInt8 => Value.int .u8 (x.toNat : Int))]
    congr 1
    unfold padI
    rw [hz, putB_snoc, List.reverse_append, show z + (8 - i) = (z + (8 - (i + 1))) + 1 by omega, List.replicate_succ', List.cons_append, List.cons_append, show z + 8 - i = (z + (8 - (i + 1))) + 1 by omega, List.set_cons_succ, List.append_assoc, List.set_append_right _ _ (by simp), List.length_replicate, Nat.sub_self]
    rfl
  rw [e]

set_option maxRecDepth 100000 in
set_option maxHeartbeats 1000000 in
theorem padding_any (L : Nat) (hL : L ≤ 1000000000) (w : World) : Calls Tryd.prog 44 #[.int .u64 (L : Int)] w (RetNew w (padOf L)) := by
  obtain ⟨i0, hi, hz0, hz1, hz2⟩ := info_parts Tryd.info5
  obtain ⟨z, hz⟩ : ∃ z, (119 - L % 64) % 64 = z := ⟨_, rfl⟩
  have hz63 : z ≤ 63 := by omega
  have Hz := Lib.hid hz
  have hzi : (128 - ((L : Int) % 64 + 1 + 8)) % 64 = (z : Int) := by omega
  clear hz
  go_enter Tryd.func44, Tryd.ntmps44
  go_wp2_with (at_make; refine wpList_make_full _ rfl _ _ 22 rfl w.heap.size 5 i0 (.int .u8 0) 1 Tryd.underlying22 hi hz0 hz1 _ _ _ _ (z + 9) rfl rfl (by omega) (by omega) (by rw [hz2]; omega) (by unfold maxLen; omega) (Nat.le_refl _) ?_)
  intro w1 hown hgrow
  have hb : Below w.heap.size w w1 := (Below.refl _ _).grown hgrow (Nat.le_refl _) (by simp)
  rw [fill_made] at hown
  have hc0 := (hown.cellAt 0 (by omega)).trans (show (cells (fill [] (z + 9)))[0]? = some (.int .u8 0) by rw [show z + 9 = (z + 8) + 1 by omega]; rfl)
  have hf0 := hown.frozenAt 0
  have R := (hown.stored 0 (.int .u8 128)).1
  have e0 : (cells (fill [] (z + 9))).set 0 (.int .u8 128) = cells (padI L 0) := by
    rw [padI_zero, Hz.out, show z + 9 = (z + 8) + 1 by omega]
    rfl
  rw [e0] at R
  have HR := Lib.hid R
  have HB := Lib.hid (hb.setCell (p := ⟨w.heap.size, 0, none⟩) (Nat.le_refl _) (.int .u8 128))
  clear R e0 hown hgrow hb
  have hzp : 0 < z + 9 := by omega
  go_wp2_with fail
  clear hc0 hf0
  generalize hN : w.heap.size = N at *
  have HN := Lib.hid hN
  clear hN
  go_loopw [23] (fun i W => ∃ k : Nat, k ≤ 8 ∧ i = .int .i64 k ∧ W.ownsRow N 5 1 (.slice (some ⟨N, 0, none⟩) (z + 9) (z + 9)) (z + 9) (cells (padI L k)) ∧ Below N w W) (fun i _ => 8 - (intOf i).toNat)
  case atStart => exact ⟨0, Nat.zero_le _, rfl, HR.out, HB.out⟩
  case round =>
    obtain ⟨k, hk, hik, hown, hb⟩ := hrel
    subst hik
    clear HR HB
    by_cases hlt : k < 8
    · have hq : z + 8 - k < z + 9 := by omega
      obtain ⟨v, hc⟩ : ∃ v, wr.cell? ⟨N, z + 8 - k, none⟩ = some v := by
        rw [hown.cellAt (z + 8 - k) (by omega)]
        exact ⟨_, List.getElem?_eq_getElem (by rw [cells_length, padI_length hk, Hz.out]; exact hq)⟩
      have hf := hown.frozenAt (z + 8 - k)
      have hset := padI_succ (L := L) hlt
      rw [Hz.out] at hset
      have R := (hown.stored (z + 8 - k) (.int .u8 ((UInt8.ofNat (8 * L / 256 ^ k)).toNat : Int))).1
      rw [hset] at R
      have HR := Lib.hid R
      have HB := Lib.hid (hb.setCell (p := ⟨N, z + 8 - k, none⟩) (Nat.le_refl _) (.int .u8 ((UInt8.ofNat (8 * L / 256 ^ k)).toNat : Int)))
      have Hv : Hid ((8 * (L : Int) / 2 ^ (8 * k)) % 256 = ((UInt8.ofNat (8 * L / 256 ^ k)).toNat : Int)) := by
        show _ = _
        have e : (8 * (L : Int) / 2 ^ (8 * k)) = ((8 * L / 256 ^ k : Nat) : Int) := by
          have e2 : ((2 : Int) ^ (8 * k)) = ((256 ^ k : Nat) : Int) := by rw [show (256 : Nat) = 2 ^ 8 from rfl, ← Nat.pow_mul, Int.natCast_pow]; rfl
          rw [e2, Int.natCast_ediv]
          rfl
        rw [e]
        exact byte_of _
      clear R hset hown hb
      obtain ⟨p, hp⟩ : ∃ p, z + 8 - k = p := ⟨_, rfl⟩
      have hpi : ((z : Int) + 9 - 1 - (k : Int)) = (p : Int) := by omega
      have hp9 : (p : Int) < (z : Int) + 9 := by omega
      simp only [hp] at HR HB hc hf
      clear hp hq
      have hd : decide ((k : Int) < 8) = true := decide_eq_true (by omega)
      go_wp2
      go_roundw
      case rel => exact ⟨k + 1, by omega, by go_num, by rw [Hv.out]; exact HR.out, by rw [Hv.out]; exact HB.out⟩
      case measure => simp [intOf]; omega
    · obtain rfl : k = 8 := by omega
      have hd : decide (((8 : Nat) : Int) < 8) = false := by decide
      go_wp2
      go_ret
      rw [padI_all] at hown
      obtain ⟨A, c, hv, hn, hnc, hcm, hl⟩ := Lies.of_own hown
      exact ⟨A, c, by rw [← hv]; rfl, by omega, hcm, hl, by rw [HN.out]; exact hb, by rw [HN.out]; rw [hv] at hown; exact Fresh.of_own hown⟩
end Go.Proofs.YtmcbpifkclhfiaaDoor
