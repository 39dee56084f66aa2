/-
  The contract of the reference's bits (layer 2).
-/
import Derived.Test.YtmcnhcbibcjgnaaPkFld
import Derived.Test.YtmcnhcbibcjgnaaPkLit
namespace Go.Proofs.Ytmcnhcbibcjgnaa
open Go.RowKit
set_option linter.unusedVariables false

/-- A bit as a byte; bits as bytes. -/
def b1 (b : Bool) : UInt8 := if b then 1 else 0
def ub (bs : List Bool) : List UInt8 := bs.map b1
theorem ub_length (bs : List Bool) : (ub bs).length = bs.length := by simp [ub]
theorem ub_append (a b : List Bool) : ub (a ++ b) = ub a ++ ub b := by simp [ub]
theorem nbits_snoc (k n : Nat) : nbits (k + 1) n = nbits k n ++ [n.testBit k] := by
  rw [nbits_add k 1 n]
  simp only [nbits, Nat.testBit_eq_decide_div_mod_eq, Nat.pow_zero, Nat.div_one]
theorem bitsOf_snoc {xs : List UInt8} {i : Nat} {x : UInt8} (h : xs[i]? = some x) : bitsOf (xs.take (i + 1)) = bitsOf (xs.take i) ++ nbits 8 x.toNat := by
  obtain ⟨hk, rfl⟩ := List.getElem?_eq_some_iff.1 h
  rw [List.take_succ_eq_append_getElem hk]
  unfold bitsOf
  rw [List.flatMap_append]
  simp
theorem bit_of (x : UInt8) (k : Nat) : bits .and .u8 ((x.toNat : Int) / 2 ^ k) 1 = ((b1 (x.toNat.testBit k)).toNat : Int) := by
  have hx := x.toNat_lt
  have e : ((x.toNat : Int) / 2 ^ k) = ((x.toNat / 2 ^ k : Nat) : Int) := by rw [Int.natCast_ediv, Int.natCast_pow]; rfl
  have hle : x.toNat / 2 ^ k ≤ x.toNat := Nat.div_le_self _ _
  have := u8_and_nat (x.toNat / 2 ^ k) 1 (by omega) (by omega)
  rw [Int.ofNat_one] at this
  rw [e, this, nat_mask1, Nat.testBit_eq_decide_div_mod_eq]
  unfold b1
  rcases Nat.mod_two_eq_zero_or_one (x.toNat / 2 ^ k) with h | h <;> simp [h]

set_option maxRecDepth 100000 in
set_option maxHeartbeats 1000000 in
theorem rbits_any (A : Option Addr) (n c : Nat) (xs : List UInt8) (w : World) (B : Nat) (h : Lies w B A xs) (hB : B ≤ w.heap.size) (hn : n = xs.length) (hl : n ≤ 1000000) :
    Calls Try.prog 53 #[.slice A n c] w (RetOwn w (ub (bitsOf xs))) := by
  obtain ⟨i0, hi, hz0, hz1, hz2⟩ := info_parts Try.info5
  have Hn := Lib.hid hn
  have Hl := Lib.hid h
  clear h hn
  go_enter Try.func53, Try.ntmps53
  go_wp2
  go_loopw [3, 4] (fun v i W => ∃ j : Nat, j ≤ n ∧ i = .int .i64 j ∧ W.ownsRow w.heap.size 5 1 v (8 * j) (cells (ub (bitsOf (xs.take j)))) ∧ Below w.heap.size w W) (fun _ i _ => n - (intOf i).toNat)
  case atStart => exact ⟨0, Nat.zero_le _, rfl, World.ownsRow_nil _ _ _ _, Below.refl _ _⟩
  case round =>
    obtain ⟨j, hj, hi', hown, hb⟩ := hrel
    subst hi'
    by_cases hlt : j < n
    · obtain ⟨b, o, x, rfl, hbB, hx, hc⟩ := Hl.out.at_ (i := j) (by rw [← Hn.out]; exact hlt)
      have Hx := Lib.hid (bitsOf_snoc hx)
      have hxl := x.toNat_lt
      clear hx
      go_wp2
      go_loopw [3, 5] (fun v i W => ∃ k : Nat, k ≤ 8 ∧ i = .int .i64 k ∧ W.ownsRow w.heap.size 5 1 v (8 * j + k) (cells (ub (bitsOf (xs.take j) ++ nbits k x.toNat))) ∧ Below w.heap.size w W) (fun _ i _ => 8 - (intOf i).toNat)
      case atStart => exact ⟨0, Nat.zero_le _, rfl, by simpa [nbits] using hown, hb⟩
      case round =>
        obtain ⟨k, hk, hik, hown2, hb2⟩ := hrel
        subst hik
        clear hown hb
        by_cases hk8 : k < 8
        · have hcell := (hb2.cell (p := ⟨b, o + j, none⟩) (Nat.lt_of_lt_of_le hbB hB)).trans hc
          have hbit := bit_of x k
          have HS : Hid (ub (bitsOf (xs.take j) ++ nbits (k + 1) x.toNat) = ub (bitsOf (xs.take j) ++ nbits k x.toNat) ++ [b1 (x.toNat.testBit k)]) := by
            show _ = _
            rw [nbits_snoc, ← List.append_assoc, ub_append]
            rfl
          generalize b1 (x.toNat.testBit k) = y at *
          have ho' := hown2.alloc (.cells #[Value.int .u8 (y.toNat : Int)] 5)
          have hl' := Lies.lit wr #[Value.int .u8 (y.toNat : Int)] [y] rfl (wr.heap.size + 1) (by omega)
          have hb'' := hb2.alloc hb2.size (.cells #[Value.int .u8 (y.toNat : Int)] 5)
          have hs'' := hb''.size
          go_wp2_with (at_builtin; refine wpList_append_lies rfl _ _ 66 rfl w.heap.size i0 Try.underlying66 hi hz0 hz1 hz2 _ (8 * j + k) (ub (bitsOf (xs.take j) ++ nbits k x.toNat)) [y] rfl ho' (wr.heap.size + 1) _ _ _ rfl hl' rfl (by omega) hs'' ?_)
          intro v2 w2 hown3 hg3
          rw [← HS.out] at hown3
          have hb3 := hb''.grown hg3 hs'' (own_ge ho')
          clear ho' hl' hbit hcell
          go_wp2_with fail
          go_roundw
          case rel => exact ⟨k + 1, by omega, by go_num, hown3, hb3⟩
          case measure => simp [intOf]; omega
        · obtain rfl : k = 8 := by omega
          rw [← Hx.out] at hown2
          go_wp2
          go_roundw
          case rel => exact ⟨j + 1, by omega, by go_num, hown2, hb2⟩
          case measure => simp [intOf]; omega
    · obtain rfl : n = j := by omega
      have HX : Hid (xs.take n = xs) := by
        show _ = _
        rw [Hn.out, List.take_length]
      go_wp2
      go_ret
      refine ⟨_, rfl, ?_, hb⟩
      rw [HX.out] at hown
      rw [ub_length, bitsOf_length, ← Hn.out]
      exact hown
end Go.Proofs.Ytmcnhcbibcjgnaa
