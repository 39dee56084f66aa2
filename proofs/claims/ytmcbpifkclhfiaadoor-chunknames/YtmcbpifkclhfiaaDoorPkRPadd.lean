/-
  Contracts of the reference's table and padded (layer 3).
-/
import Derived.Test.YtmcbpifkclhfiaaDoorPkPadC
import Derived.Test.YtmcbpifkclhfiaaDoorPkHashM
namespace Go.Proofs.YtmcbpifkclhfiaaDoor
open Go.RowKit
set_option linter.unusedVariables false

theorem putB_get (N : Nat) {j k : Nat} (h : j < k) : (putB N k)[j]? = some (UInt8.ofNat (N / 256 ^ j)) := by
  induction k generalizing N j with
  | zero => omega
  | succ k ih =>
    cases j with
    | zero => simp [putB]
    | succ j =>
      rw [putB, List.getElem?_cons_succ, ih (N / 256) (by omega), Nat.div_div_eq_div_mul, Nat.pow_succ, Nat.mul_comm]
theorem be8_at (N : Nat) {i : Nat} (h : i < 8) : (be8 N)[i]? = some (UInt8.ofNat (N / 2 ^ (56 - 8 * i))) := by
  unfold be8
  rw [List.getElem?_reverse (by rw [putB_length]; exact h), putB_length, putB_get N (by omega), show 56 - 8 * i = 8 * (8 - 1 - i) by omega, Nat.pow_mul]
/-- The text, the byte 128 and j noughts. -/
def padJ (xs : List UInt8) (j : Nat) : List UInt8 := xs ++ 128 :: List.replicate j 0
theorem padJ_length (xs : List UInt8) (j : Nat) : (padJ xs j).length = xs.length + 1 + j := by simp [padJ]; omega
theorem padJ_succ (xs : List UInt8) (j : Nat) : padJ xs j ++ [0] = padJ xs (j + 1) := by
  unfold padJ
  rw [List.replicate_succ', List.append_assoc]
  rfl
theorem padJ_all (xs : List UInt8) : padJ xs ((119 - xs.length % 64) % 64) ++ (be8 (8 * xs.length)).take 8 = padB64 xs := by
  rw [List.take_of_length_le (by rw [be8_length]; exact Nat.le_refl _)]
  unfold padJ padB64 tailB
  rw [List.append_assoc, List.cons_append]
/-- The length of a slice's value. -/
def lenV3 : Value → Nat | .slice _ n _ => n | _ => 0

set_option maxRecDepth 100000 in
set_option maxHeartbeats 1000000 in
theorem table_any (w : World) : Calls Tryd.prog 37 #[] w fun e w' => e = .returned (.slice (some ⟨w.heap.size, 0, none⟩) 64 64) ∧ RowV w' w.heap.size 58 (wcells shaK) ∧ Below w.heap.size w w' ∧ w'.heap.size = w.heap.size + 1 := by
  go_enter Tryd.func37, Tryd.ntmps37
  go_wp2
  go_ret
  exact ⟨rfl, heap_alloc_new w _, (Below.refl _ _).alloc (Nat.le_refl _) _, by simp⟩

set_option maxRecDepth 100000 in
set_option maxHeartbeats 1000000 in
theorem padded_any (A : Option Addr) (n c : Nat) (xs : List UInt8) (w : World) (B : Nat) (h : Lies w B A xs) (hB : B ≤ w.heap.size) (hn : n = xs.length) (hl : n ≤ 100000000) :
    Calls Tryd.prog 38 #[.slice A n c] w (RetNew w (padB64 xs)) := by
  obtain ⟨i0, hi, hz0, hz1, hz2⟩ := info_parts Tryd.info5
  have Hn := Lib.hid hn
  clear hn
  obtain ⟨z, hz⟩ : ∃ z, (119 - n % 64) % 64 = z := ⟨_, rfl⟩
  have hz63 : z ≤ 63 := by omega
  have hz56 : (n + 1 + z) % 64 = 56 := by omega
  have hzn : ∀ j, j < z → (n + 1 + j) % 64 ≠ 56 := by omega
  have Hz := Lib.hid hz
  have Hzn := Lib.hid hzn
  have Hz56 := Lib.hid hz56
  clear hz hzn hz56
  have hown0 : w.ownsRow w.heap.size 5 1 (.slice none 0 0) 0 (cells []) := ⟨rfl, .inl ⟨rfl, rfl⟩⟩
  go_enter Tryd.func38, Tryd.ntmps38
  go_wp2_with (at_builtin; refine wpList_append_lies rfl _ _ 22 rfl w.heap.size i0 Tryd.underlying22 hi hz0 hz1 hz2 _ 0 [] xs rfl hown0 B _ _ _ rfl h Hn.out (by omega) (Nat.le_refl _) ?_)
  intro v1 w1 hown1 hg1
  have hb1 : Below w.heap.size w w1 := (Below.refl _ _).grown hg1 (Nat.le_refl _) (by simp [Value.ownBlock])
  have ho1 := hown1.alloc (.cells #[Value.int .u8 128] 5)
  have hl1 := Lies.lit w1 #[Value.int .u8 128] [128] rfl (w1.heap.size + 1) (by omega)
  have hb1' := hb1.alloc hb1.size (.cells #[Value.int .u8 128] 5)
  have hs1' := hb1'.size
  go_wp2_with (at_builtin; refine wpList_append_lies rfl _ _ 22 rfl w.heap.size i0 Tryd.underlying22 hi hz0 hz1 hz2 _ n xs [128] rfl ho1 (w1.heap.size + 1) _ _ _ rfl hl1 rfl (by omega) hs1' ?_)
  intro v2 w2 hown2 hg2
  have hb2 : Below w.heap.size w w2 := hb1'.grown hg2 hs1' (own_ge ho1)
  change w2.ownsRow w.heap.size 5 1 v2 (n + 1) (cells (padJ xs 0)) at hown2
  clear hown1 hg1 hb1 ho1 hl1 hb1' hs1' hg2
  obtain ⟨A1, c1, rfl, hn1, _, _, _⟩ := Lies.of_own hown2
  rw [← hn1] at hown2 ⊢
  clear hn1
  go_wp2_with fail
  go_loopw [3] (fun v W => ∃ j A c, j ≤ z ∧ v = .slice A (n + 1 + j) c ∧ W.ownsRow w.heap.size 5 1 (.slice A (n + 1 + j) c) (n + 1 + j) (cells (padJ xs j)) ∧ Below w.heap.size w W) (fun v _ => n + 1 + z - lenV3 v)
  case atStart => exact ⟨0, A1, c1, Nat.zero_le _, rfl, hown2, hb2⟩
  case round =>
    obtain ⟨j, A2, c2, hj, hv, hown, hb⟩ := hrel
    subst hv
    clear hown2 hb2
    by_cases hlt : j < z
    · have hne := Hzn.out j hlt
      have ho' := hown.alloc (.cells #[Value.int .u8 0] 5)
      have hl' := Lies.lit wr #[Value.int .u8 0] [0] rfl (wr.heap.size + 1) (by omega)
      have hb'' := hb.alloc hb.size (.cells #[Value.int .u8 0] 5)
      have hs'' := hb''.size
      have hge := own_ge ho'
      obtain ⟨L, hL⟩ : ∃ L, n + 1 + j = L := ⟨_, rfl⟩
      have HL := Lib.hid hL
      have hL2 : L ≤ 100000100 := by omega
      rw [hL] at hne ho' hge ⊢
      have hd : (((L : Int) % 64) != 56) = true := by rw [bne_iff_ne]; omega
      clear hown hb hL hne
      go_wp2_with (at_builtin; refine wpList_append_lies rfl _ _ 22 rfl w.heap.size i0 Tryd.underlying22 hi hz0 hz1 hz2 _ L (padJ xs j) [0] rfl ho' (wr.heap.size + 1) _ _ _ rfl hl' rfl (by omega) hs'' ?_)
      intro v3 w3 hown3 hg3
      have hb3 : Below w.heap.size w w3 := hb''.grown hg3 hs'' hge
      rw [padJ_succ] at hown3
      obtain ⟨A3, c3, rfl, hn3, _, _, _⟩ := Lies.of_own hown3
      rw [← hn3] at hown3 ⊢
      clear hn3
      go_wp2
      go_roundw
      case rel =>
        have e : n + 1 + (j + 1) = L + 1 := by have := HL.out; omega
        refine ⟨j + 1, A3, c3, by omega, ?_, ?_, hb3⟩
        · rw [e]
        · rw [e]; exact hown3
      case measure => have := HL.out; simp [lenV3]; omega
    · obtain rfl : j = z := by omega
      have h56 := Hz56.out
      obtain ⟨L, hL⟩ : ∃ L, n + 1 + j = L := ⟨_, rfl⟩
      have HL := Lib.hid hL
      have hL2 : L ≤ 100000100 := by omega
      rw [hL] at h56 hown ⊢
      have hd : (((L : Int) % 64) != 56) = false := by rw [bne_eq_false_iff_eq]; omega
      clear hL h56
      go_wp2_with fail
      clear hd
      have Hat : Hid (∀ i, i < 8 → (be8 (8 * n))[i]? = some (UInt8.ofNat (8 * n / 2 ^ (56 - 8 * i)))) := fun i hi => be8_at (8 * n) hi
      have hpl := padJ_length xs j
      generalize hpj : padJ xs j = pj at *
      have Hpj := Lib.hid hpj
      clear hpj
      go_loopw [3, 5] (fun v i W => ∃ k A c, k ≤ 8 ∧ i = .int .i64 ((k : Nat) : Int) ∧ v = .slice A (L + k) c ∧ W.ownsRow w.heap.size 5 1 (.slice A (L + k) c) (L + k) (cells (pj ++ (be8 (8 * n)).take k)) ∧ Below w.heap.size w W) (fun _ i _ => 8 - (intOf i).toNat)
      case atStart => exact ⟨0, A2, c2, Nat.zero_le _, rfl, rfl, by rw [List.take_zero, List.append_nil]; exact hown, hb⟩
      case round =>
        obtain ⟨k, A3, c3, hk, hik, hv, hown3, hb3⟩ := hrel
        subst hik hv
        clear hown hb
        by_cases hk8 : k < 8
        · have hx := Hat.out k hk8
          obtain ⟨t, ht⟩ : ∃ t, 56 - 8 * k = t := ⟨_, rfl⟩
          have hti : 56 - 8 * (k : Int) = (t : Int) := by omega
          have ht56 : t ≤ 56 := by omega
          rw [ht] at hx
          have hv : (8 * (n : Int)) / 2 ^ t % 256 = ((UInt8.ofNat (8 * n / 2 ^ t)).toNat : Int) := by
            have e : (8 * (n : Int)) / 2 ^ t = ((8 * n / 2 ^ t : Nat) : Int) := by
              rw [Int.natCast_ediv, Int.natCast_pow]
              rfl
            rw [e]
            exact byte_of _
          have hv2 : ((n : Int) * 8) / 2 ^ t % 256 = ((UInt8.ofNat (8 * n / 2 ^ t)).toNat : Int) := by rw [Int.mul_comm]; exact hv
          have Htk : Hid ((be8 (8 * n)).take (k + 1) = (be8 (8 * n)).take k ++ [UInt8.ofNat (8 * n / 2 ^ t)]) := by
            show _ = _
            obtain ⟨h1, h2⟩ := List.getElem?_eq_some_iff.1 hx
            rw [List.take_succ_eq_append_getElem h1, h2]
          generalize UInt8.ofNat (8 * n / 2 ^ t) = y at *
          have ho' := hown3.alloc (.cells #[Value.int .u8 (y.toNat : Int)] 5)
          have hl' := Lies.lit wr #[Value.int .u8 (y.toNat : Int)] [y] rfl (wr.heap.size + 1) (by omega)
          have hb'' := hb3.alloc hb3.size (.cells #[Value.int .u8 (y.toNat : Int)] 5)
          have hs'' := hb''.size
          have hge := own_ge ho'
          clear hown3 hb3 hx ht
          have hd : decide ((k : Int) < 8) = true := decide_eq_true (by omega)
          go_wp2_with (at_builtin; refine wpList_append_lies rfl _ _ 22 rfl w.heap.size i0 Tryd.underlying22 hi hz0 hz1 hz2 _ (L + k) (pj ++ (be8 (8 * n)).take k) [y] rfl ho' (wr.heap.size + 1) _ _ _ rfl hl' rfl (by omega) hs'' ?_)
          intro v4 w4 hown4 hg4
          have hb4 : Below w.heap.size w w4 := hb''.grown hg4 hs'' hge
          obtain ⟨A4, c4, rfl, hn4, _, _, _⟩ := Lies.of_own hown4
          rw [← hn4] at hown4 ⊢
          clear hn4
          rw [← Htk.out] at hown4
          go_wp2
          go_roundw
          case rel => exact ⟨k + 1, A4, c4, by omega, by go_num, rfl, hown4, hb4⟩
          case measure => simp [intOf]; omega
        · obtain rfl : k = 8 := by omega
          have hd : decide (((8 : Nat) : Int) < 8) = false := by decide
          go_wp2
          go_ret
          rw [← Hpj.out] at hown3
          have e := padJ_all xs
          rw [← Hn.out, Hz.out] at e
          rw [e] at hown3
          obtain ⟨A4, c4, hv, hn4, h1, h2, h3⟩ := Lies.of_own hown3
          exact ⟨A4, c4, by rw [← hv]; rfl, by omega, h2, h3, hb3, by rw [hv] at hown3; exact Fresh.of_own hown3⟩
end Go.Proofs.YtmcbpifkclhfiaaDoor
